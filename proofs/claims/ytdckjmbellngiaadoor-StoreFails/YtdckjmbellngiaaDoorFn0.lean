/- store: what is kept of the writes, in a row of one's own, beside a store. -/
import Derived.Test.YtdckjmbellngiaaDoorFm
import Derived.Test.YtdckjmbellngiaaDoorGq
namespace Go.Proofs.YtdckjmbellngiaaDoor
open Go.RowKit Go.Maps Go.Sort Go.Proofs
set_option linter.unusedVariables false
set_option linter.unusedSimpArgs false
/-- The cells of writes. -/
def flW : WL → List Value
  | [] => []
  | x :: r => .string x.1 :: .string x.2 :: flW r
theorem flW_len : ∀ K : WL, (flW K).length = K.length * 2
  | [] => rfl
  | x :: r => by simp only [flW, List.length_cons, flW_len r]; omega
theorem flW_app : ∀ (K : WL) (x : ByteArray × ByteArray), flW (K ++ [x]) = flW K ++ [.string x.1, .string x.2]
  | [], x => rfl
  | y :: r, x => by simp only [List.cons_append, flW, flW_app r x]
theorem flW_at : ∀ (K : WL) (j : Nat), j < K.length → (flW K)[j * 2]? = some (.string (atW K j).1) ∧ (flW K)[j * 2 + 1]? = some (.string (atW K j).2)
  | [], j, h => by simp at h
  | x :: r, 0, _ => by simp [flW, atW]
  | x :: r, j + 1, h => by
    have e : (j + 1) * 2 = (j * 2 + 1) + 1 := by omega
    have q := flW_at r j (by simpa using h)
    rw [e]
    simp only [flW, List.getElem?_cons_succ]
    exact q
theorem wrs_own {w : World} {base : Nat} {va : Option Addr} {vc : Nat} {K : WL} (h : w.ownsRow base 49 2 (.slice va K.length vc) K.length (flW K)) : Wrs w va K := by
  intro j hj
  rcases h.2 with ⟨hv, h0⟩ | ⟨g, cap, cur, hv, _, hb, _, _, _, h4⟩
  · omega
  · cases hv
    have hc := h.cells (g := g) rfl
    obtain ⟨q1, q2⟩ := flW_at K j hj
    refine ⟨g, 0, rfl, ?_, ?_⟩
    · have := hc _ _ q1; rw [addO] at this; exact this
    · have := hc _ _ q2; rw [addO] at this; exact this
theorem atW_app {K : WL} {x : ByteArray × ByteArray} {j : Nat} (h : j < K.length) : atW (K ++ [x]) j = atW K j := by
  simp [atW, List.getD_eq_getElem?_getD, List.getElem?_append_left h]
theorem atW_last {K : WL} {x : ByteArray × ByteArray} : atW (K ++ [x]) K.length = x := by
  simp [atW, List.getD_eq_getElem?_getD]
theorem liesT_app {K : WL} {x : ByteArray × ByteArray} : ∀ {k : Nat}, k ≤ K.length → liesT (K ++ [x]) k = liesT K k
  | 0, _ => rfl
  | k + 1, h => by
    funext y
    simp only [liesT, atW_app (show k < K.length by omega), liesT_app (show k ≤ K.length by omega)]
theorem liesT_snoc (K : WL) (x : ByteArray × ByteArray) : liesT (K ++ [x]) (K.length + 1) = putT (liesT K K.length) x.1 x.2 := by
  rw [← liesT_put, atW_last, liesT_app (Nat.le_refl _)]
/-- What is kept of the first i writes. -/
def keepL (ls : WL) : Nat → WL
  | 0 => []
  | i + 1 => if okN (atW ls i).1 then keepL ls i ++ [atW ls i] else keepL ls i
theorem keepL_yes {ls : WL} {i : Nat} (h : okN (atW ls i).1) : keepL ls (i + 1) = keepL ls i ++ [atW ls i] := by simp only [keepL]; rw [if_pos h]
theorem keepL_no {ls : WL} {i : Nat} (h : ¬ okN (atW ls i).1) : keepL ls (i + 1) = keepL ls i := by simp only [keepL]; rw [if_neg h]
theorem keepL_le (ls : WL) : ∀ i, (keepL ls i).length ≤ i
  | 0 => Nat.le_refl _
  | i + 1 => by
    have := keepL_le ls i
    by_cases h : okN (atW ls i).1
    · rw [keepL_yes h]; simp; omega
    · rw [keepL_no h]; omega
/-- Is n among the first k numbers? -/
def anyZ (zs : List Int) (n : Int) : Nat → Bool
  | 0 => false
  | k + 1 => anyZ zs n k || zs.getD k 0 == n
theorem anyZ_mem (zs : List Int) (n : Int) : ∀ k, k ≤ zs.length → (anyZ zs n k = true ↔ n ∈ zs.take k)
  | 0, _ => by simp [anyZ]
  | k + 1, h => by
    have hk : k < zs.length := by omega
    rw [anyZ, Bool.or_eq_true, anyZ_mem zs n k (by omega), List.take_add_one, List.getElem?_eq_getElem hk]
    simp only [Option.toList_some, List.mem_append, List.mem_singleton, beq_iff_eq, List.getD_eq_getElem?_getD, List.getElem?_eq_getElem hk, Option.getD_some]
    exact or_congr Iff.rfl eq_comm
theorem anyZ_all (zs : List Int) (n : Int) : anyZ zs n zs.length = decide (n ∈ zs) := by
  have := anyZ_mem zs n zs.length (Nat.le_refl _)
  rw [List.take_length] at this
  by_cases h : n ∈ zs
  · rw [decide_eq_true h]; exact this.2 h
  · rw [decide_eq_false h]
    cases hb : anyZ zs n zs.length
    · rfl
    · exact absurd (this.1 hb) h
/-- Trouble that may not be: where. -/
theorem okR_find {zs : List Int} : ∀ {k : Nat}, k < zs.length → okR 0 (zs.take k) = true → okR 0 (zs.take (k + 1)) = decide ((if k = 0 then 0 else zs.getD (k - 1) 0) < zs.getD k 0) := by
  intro k hk h
  rw [List.take_add_one, List.getElem?_eq_getElem hk, Option.toList_some, okR_snoc, h, Bool.true_and]
  congr 1
  have hl : (zs.take k).length = k := by rw [List.length_take]; omega
  rw [hl]
  have e2 : zs[k] = zs.getD k 0 := by simp [List.getD_eq_getElem?_getD, hk]
  rw [e2]
  by_cases h0 : k = 0
  · subst h0; simp
  · have hne : zs.take k ≠ [] := by intro e; rw [e] at hl; simp at hl; omega
    rw [if_neg hne, if_neg h0]
    have : (zs.take k).getD (k - 1) 0 = zs.getD (k - 1) 0 := by
      simp [List.getD_eq_getElem?_getD, List.getElem?_take, show k - 1 < k by omega]
    rw [this]
/-- A store beside a row of writes. -/
structure Ak (w : World) (N : Nat) (W : World) (b bm n : Nat) (K : WL) (v : Value) (p : Option Addr) (c : Nat) (zs : List Int) (rn wn : Int) : Prop where
  al : Al w W b bm n (liesT K K.length) p c zs 0 rn wn false
  own : W.ownsRow N 49 2 v K.length (flW K)
  lb : b < N
  lm : bm < N
  lp : zs = [] ∨ ∀ g o, p = some ⟨g, o, none⟩ → g < N
  ws : N ≤ W.heap.size
  wN : w.heap.size ≤ N
theorem own_nw {w w' : World} {base : Nat} {e : TypeId} {size : Nat} {v : Value} {n : Nat} {xs : List Value} (h : w.ownsRow base e size v n xs) (k : Nw w w') : w'.ownsRow base e size v n xs :=
  ownsRow_keep h (fun g hg => k.block g (h.lt g hg).2 (fun f => f))
theorem Ak.go {w : World} {N : Nat} {W W' : World} {b bm n : Nat} {K : WL} {v : Value} {p : Option Addr} {c : Nat} {zs : List Int} {rn wn : Int} (h : Ak w N W b bm n K v p c zs rn wn) (k : Nw W W') : Ak w N W' b bm n K v p c zs rn wn :=
  ⟨h.al.go k, own_nw h.own k, h.lb, h.lm, h.lp, Nat.le_trans h.ws k.size, h.wN⟩
theorem Ak.put {w : World} {N : Nat} {W : World} {b bm n : Nat} {K : WL} {v : Value} {p : Option Addr} {c : Nat} {zs : List Int} {rn : Int} {wn : Nat} (h : Ak w N W b bm n K v p c zs rn wn) {B : Nat} {a : Nat → Addr} (hS : Sent B w a) (s t : ByteArray) (hs : okN s) (ht : t.size ≤ 281474976710656) (hn : n < 4611686018427387904) (hr1 : wn < 4611686018427387904) :
    Calls Tryd.prog 7 #[.pointer (some ⟨b, 0, none⟩), .string s, .string t] W fun e W' => e = .returned .nilIface ∧ N ≤ W'.heap.size ∧ Al w W' b bm (n + 1) (putT (liesT K K.length) s t) p c zs 0 rn ((wn : Int) + 1) false ∧ W'.ownsRow N 49 2 v K.length (flW K) := by
  have := hS.hsz
  have h1 := h.al.hb
  have h2 := h.al.hm
  refine (sput_any h.al.sr s t hs ht (hS.fr h.al.nw (fun _ _ f => f)) hn (by omega) (by omega) (by omega) (by omega)).mono ?_
  rintro e W' ⟨rfl, q1, q2⟩
  have hd : dies 0 ((wn : Int) + 1) = false := by simp only [dies, Bool.or_eq_false_iff, beq_eq_false_iff_ne]; omega
  rw [hd, wrT, if_neg (by omega)] at q1
  refine ⟨by rw [putV, hd]; rfl, Nat.le_trans h.ws q2.size, ⟨h.al.nw.trans q2 (fun j hj e => by omega), q1, h1, h2⟩, ?_⟩
  refine ownsRow_keep h.own (fun g hg => q2.block g (h.own.lt g hg).2 (fun e => ?_))
  have := (h.own.lt g hg).1
  have := h.lb
  have := h.lm
  omega
theorem Ak.app {w : World} {N : Nat} {W W1 : World} {b bm n n1 : Nat} {K : WL} {v v' : Value} {p : Option Addr} {c : Nat} {zs : List Int} {rn rn1 wn wn1 : Int} (h : Ak w N W b bm n K v p c zs rn wn) {x : ByteArray × ByteArray} (al : Al w W1 b bm n1 (putT (liesT K K.length) x.1 x.2) p c zs 0 rn1 wn1 false) {W2 : World} (hw : N ≤ W1.heap.size) (hv : ∀ k, v.ownBlock = some k → N ≤ k) (g : W1.grownBy W2 v.ownBlock) (o : W2.ownsRow N 49 2 v' (K.length + 1) (flW K ++ [.string x.1, .string x.2])) :
    Ak w N W2 b bm n1 (K ++ [x]) v' p c zs rn1 wn1 := by
  have f : Fr (fun k => v.ownBlock = some k) W1 W2 := (Fr.refl _ W1).grown g (fun k hk _ => hk)
  have h1 := h.lb
  have h2 := h.lm
  have h3 := h.wN
  have h4 := h.ws
  refine ⟨⟨al.nw.trans f (fun j hj e => by have := hv j e; omega), ?_, al.hb, al.hm⟩, ?_, h1, h2, h.lp, Nat.le_trans hw f.size, h3⟩
  · rw [List.length_append, List.length_singleton, liesT_snoc]
    refine ⟨(f.block _ (heap_lt al.sr.blk) (fun e => by have := hv _ e; omega)).trans al.sr.blk, al.sr.mp.fr f (fun e => by have := hv _ e; omega), ?_, al.sr.ne, al.sr.nb⟩
    rcases h.lp with e0 | hp
    · subst e0; exact fun j hj => by simp at hj
    · exact al.sr.rd.fr f (fun g' o' e e2 => by have := hp g' o' e; have := hv _ e2; omega)
  · rw [List.length_append, List.length_singleton, flW_app]
    exact o
theorem Ak.get {w : World} {N : Nat} {W : World} {b bm n : Nat} {K : WL} {v : Value} {p : Option Addr} {c : Nat} {zs : List Int} {rn : Nat} {wn : Int} (h : Ak w N W b bm n K v p c zs rn wn) {B : Nat} {a : Nat → Addr} (hS : Sent B w a) (s : ByteArray) (hs : okN s) (hl : zs.length ≤ 1099511627776) (hok : okR 0 zs = true) (hr1 : rn < 4611686018427387904) {x : Value} (hx : getV a zs rn (liesT K K.length s) = x) :
    Calls Tryd.prog 9 #[.pointer (some ⟨b, 0, none⟩), .string s] W fun e W' => e = .returned x ∧ Ak w N W' b bm n K v p c zs ((rn : Int) + 1) wn := by
  subst hx
  have := hS.hsz
  have h1 := h.al.hb
  have h2 := h.al.hm
  refine (sget_any h.al.sr s hs (hS.fr h.al.nw (fun _ _ f => f)) hl hok (by omega) (by omega) (by omega)).mono ?_
  rintro e W' ⟨rfl, q1, q2⟩
  refine ⟨rfl, ⟨h.al.nw.trans q2 (fun j hj e => by omega), ?_, h1, h2⟩, ?_, h.lb, h.lm, h.lp, Nat.le_trans h.ws q2.size, h.wN⟩
  · exact q1
  · refine ownsRow_keep h.own (fun g hg => q2.block g (h.own.lt g hg).2 (fun e => ?_))
    have := (h.own.lt g hg).1
    have := h.lb
    omega
theorem ownsRow_form {w : World} {base : Nat} {e : TypeId} {size : Nat} {v : Value} {n : Nat} {xs : List Value} (h : w.ownsRow base e size v n xs) : ∃ va vc, v = .slice va n vc := by
  rcases h.2 with ⟨hv, h0⟩ | ⟨g, cap, cur, hv, _⟩
  · exact ⟨none, 0, by rw [hv, h0]⟩
  · exact ⟨_, _, hv⟩
theorem grw_call {w0 w : World} {f : FuncId} {args : Array Value} {v : Value} (h : ∀ W, Nw w0 W → Calls Tryd.prog f args W fun e w' => e = .returned v ∧ Nw W w') (n : Nw w0 w) (x : Grw w) : Calls Tryd.prog f args x.val fun e w'' => e = .returned v ∧ ∃ y : Grw w, w'' = y.val := grown_call (h _ (n.tr x.nw))
end Go.Proofs.YtdckjmbellngiaaDoor
