/- CacheKeeps: uses in memory, what is kept (pure), a cache beside the row of its keys. -/
import Derived.Test.YtgdjoaiahigjpaaDoorNa
import Derived.Test.YtgdjoaiahigjpaaDoorGq
import Derived.Lib.Bytes
namespace Go.Proofs.YtgdjoaiahigjpaaDoor
open Go.RowKit Go.Maps
open CS hiding tA tB tC
set_option linter.unusedVariables false
set_option linter.unusedSimpArgs false
abbrev UT := ByteArray × Int × Bool
def u0t : UT := (e0t, 0, false)
/-- Uses in memory. -/
def Uses (w : World) (p : Option Addr) (ls : List UT) : Prop := ∀ j, j < ls.length → ∃ g o, p = some ⟨g, o, none⟩ ∧ w.cell? ⟨g, o + j * 3, none⟩ = some (.string (ls.getD j u0t).1) ∧ w.cell? ⟨g, o + j * 3 + 1, none⟩ = some (.int .i64 (ls.getD j u0t).2.1) ∧ w.cell? ⟨g, o + j * 3 + 2, none⟩ = some (.bool (ls.getD j u0t).2.2)
theorem Uses.nw {w w' : World} {p : Option Addr} {ls : List UT} (h : Uses w p ls) (k : Nw w w') : Uses w' p ls := fun j hj => by
  obtain ⟨g, o, hp, hc, hd, he⟩ := h j hj
  exact ⟨g, o, hp, k.cellOf hc, k.cellOf hd, k.cellOf he⟩
theorem tl_sameK (s : ByteArray) : (s.toList == s.toList) = true := by simp
theorem tl_neK {s t : ByteArray} (h : s ≠ t) : (s.toList == t.toList) = false := by
  cases hb : (s.toList == t.toList)
  · rfl
  · rw [beq_iff_eq, Lib.toList_data, Lib.toList_data] at hb
    exact absurd (by cases s; cases t; simpa using hb) h
/-- Where a key stands: at is -1 where it stands nowhere. -/
def AtK (K : List ByteArray) (x : ByteArray) (k : Nat) (at_ : Int) : Prop := (at_ = -1 ∧ ∀ i, i < k → K.getD i e0t ≠ x) ∨ ∃ j, j < k ∧ at_ = (j : Int) ∧ K.getD j e0t = x
theorem AtK.no {K : List ByteArray} {x : ByteArray} {k : Nat} {z : Int} (h : AtK K x k z) (hne : K.getD k e0t ≠ x) : AtK K x (k + 1) z := by
  rcases h with ⟨h1, h2⟩ | ⟨j, h1, h2, h3⟩
  · exact .inl ⟨h1, fun i hi => if e : i = k then e ▸ hne else h2 i (by omega)⟩
  · exact .inr ⟨j, by omega, h2, h3⟩
theorem AtK.yes {K : List ByteArray} {x : ByteArray} (k : Nat) (he : K.getD k e0t = x) : AtK K x (k + 1) (k : Int) := .inr ⟨k, by omega, rfl, he⟩
/-- The list ahead of place k without place j. -/
def nx (K : List ByteArray) (j k : Nat) : List ByteArray := (K.take k).eraseIdx j
theorem nx_zero (K : List ByteArray) (j : Nat) : nx K j 0 = [] := by simp [nx]
theorem nx_same {K : List ByteArray} {k : Nat} (hk : k < K.length) : nx K k (k + 1) = nx K k k := by
  have hl : (K.take k).length = k := by rw [List.length_take]; omega
  rw [nx, nx, List.take_add_one, List.getElem?_eq_getElem hk, Option.toList_some, List.eraseIdx_append_of_length_le (by omega), hl, Nat.sub_self, List.eraseIdx_of_length_le (l := K.take k) (by omega)]
  simp
theorem nx_more {K : List ByteArray} {j k : Nat} (hk : k < K.length) (hne : k ≠ j) : nx K j (k + 1) = nx K j k ++ [K.getD k e0t] := by
  have hl : (K.take k).length = k := by rw [List.length_take]; omega
  have hg : K[k] = K.getD k e0t := by simp [List.getD_eq_getElem?_getD, hk]
  rw [nx, nx, List.take_add_one, List.getElem?_eq_getElem hk, Option.toList_some, hg]
  by_cases hj : j < k
  · rw [List.eraseIdx_append_of_lt_length (by omega)]
  · rw [List.eraseIdx_append_of_length_le (by omega), hl, List.eraseIdx_of_length_le (l := K.take k) (by omega)]
    congr 1
    exact List.eraseIdx_of_length_le (by simp; omega)
theorem nx_len {K : List ByteArray} {j k : Nat} (hk : k ≤ K.length) : (nx K j k).length = if j < k then k - 1 else k := by
  rw [nx, List.length_eraseIdx, List.length_take, Nat.min_eq_left hk]
/-- Behind the loop that looks for a key. -/
theorem at_end {L : LT} {x : ByteArray} {z : Int} (h : AtK (L.map Prod.fst) x L.length z) (hd : (L.map Prod.fst).Nodup) :
    (z = -1 ∧ tk L x = none) ∨ ∃ A v B, L = A ++ (x, v) :: B ∧ z = (A.length : Int) ∧ tk L x = some (v, A ++ B) := by
  have hg : ∀ i (hi : i < L.length), (L.map Prod.fst).getD i e0t = L[i].1 := fun i hi => by simp [List.getD_eq_getElem?_getD, hi]
  rcases h with ⟨h1, h2⟩ | ⟨j, h1, h2, h3⟩
  · refine .inl ⟨h1, tk_none (fun y hy e => ?_)⟩
    obtain ⟨i, hi, rfl⟩ := List.getElem_of_mem hy
    exact h2 i hi (by rw [hg i hi]; exact e)
  · refine .inr ⟨L.take j, L[j].2, L.drop (j + 1), ?_, by rw [List.length_take, Nat.min_eq_left (by omega)]; exact h2, ?_⟩
    · rw [hg j h1] at h3
      rw [← h3]
      exact (List.take_append_drop j L).symm.trans (by rw [List.drop_eq_getElem_cons h1])
    · have e : L = L.take j ++ (x, L[j].2) :: L.drop (j + 1) := by
        rw [hg j h1] at h3
        rw [← h3]
        exact (List.take_append_drop j L).symm.trans (by rw [List.drop_eq_getElem_cons h1])
      have hn : ∀ y ∈ L.take j, y.1 ≠ x := fun y hy ey => by
        obtain ⟨i, hi, rfl⟩ := List.getElem_of_mem hy
        have hij : i < j := by rw [List.length_take] at hi; omega
        rw [List.getElem_take] at ey
        rw [hg j h1] at h3
        have h5 := (List.getElem_inj (xs := L.map Prod.fst) (i := i) (j := j) (h₀ := by simp; omega) (h₁ := by simp; omega) hd).1 (by simp [ey, h3])
        omega
      exact (congrArg (fun M => tk M x) e).trans (tk_some hn)
theorem nx_absent {L : LT} {cap k : Nat} (hL : L.length ≤ cap) (hk : k ≤ L.length) (hc : 1 + (nx (L.map Prod.fst) L.length k).length ≤ cap) (he : k = L.length ∨ ¬ (1 + (nx (L.map Prod.fst) L.length k).length < cap)) :
    nx (L.map Prod.fst) L.length k = (if L.length = cap then L.dropLast else L).map Prod.fst := by
  have hn : nx (L.map Prod.fst) L.length k = (L.take k).map Prod.fst := by
    rw [nx, List.eraseIdx_of_length_le (by simp; omega), List.map_take]
  rw [hn] at hc he ⊢
  simp only [List.length_map, List.length_take, Nat.min_eq_left hk] at hc he
  congr 1
  by_cases hf : L.length = cap
  · rw [if_pos hf, List.dropLast_eq_take]
    congr 1
    omega
  · rw [if_neg hf]
    have : k = L.length := by omega
    rw [this, List.take_length]
theorem nx_there {A B : LT} {x : ByteArray} {v : VT} {cap k : Nat} (hL : (A ++ (x, v) :: B).length ≤ cap) (hk : k ≤ (A ++ (x, v) :: B).length) (he : k = (A ++ (x, v) :: B).length ∨ ¬ (1 + (nx ((A ++ (x, v) :: B).map Prod.fst) A.length k).length < cap)) :
    nx ((A ++ (x, v) :: B).map Prod.fst) A.length k = (A ++ B).map Prod.fst := by
  rw [nx_len (by simpa using hk)] at he
  simp only [List.length_append, List.length_cons] at hL hk he
  have hcut : ∀ M : List ByteArray, ∀ N : List ByteArray, ∀ y, (M ++ y :: N).eraseIdx M.length = M ++ N := fun M N y => by
    rw [List.eraseIdx_append_of_length_le (Nat.le_refl _), Nat.sub_self]; rfl
  by_cases hkl : k = A.length + (B.length + 1)
  · rw [nx, List.take_of_length_le (by simp; omega), List.map_append, List.map_cons, List.map_append]
    have := hcut (A.map Prod.fst) (B.map Prod.fst) x
    rwa [List.length_map] at this
  · have hkA : k = A.length ∧ B.length = 0 := by
      rcases he with e | e
      · omega
      · split at e <;> omega
    obtain ⟨rfl, hB⟩ := hkA
    obtain rfl : B = [] := List.length_eq_zero_iff.1 hB
    rw [nx, List.eraseIdx_of_length_le (by simp)]
    simp
/-- A cache beside the row of its keys, which lies in none of its blocks. -/
structure Kx (w W : World) (b N cap : Nat) (L : LT) (p : Option Addr) : Prop where
  nw : Nw w W
  ex : ∃ S : Nat → Prop, (∀ k, S k → w.heap.size ≤ k) ∧ Cx W S b N cap L ∧ (L = [] ∨ ∀ g o, p = some ⟨g, o, none⟩ → ¬ S g)
  st : Strs W p (L.map Prod.fst)
theorem Kx.len {w W : World} {b N cap : Nat} {L : LT} {p : Option Addr} (h : Kx w W b N cap L p) : L.length ≤ cap ∧ cap ≤ 1024 := let ⟨_, _, c, _⟩ := h.ex; c.len
theorem Kx.key {w W : World} {b N cap : Nat} {L : LT} {p : Option Addr} (h : Kx w W b N cap L p) : (∀ z ∈ L, kok z.1) ∧ (L.map Prod.fst).Nodup := let ⟨_, _, c, _⟩ := h.ex; c.key
theorem Kx.go {w W V : World} {b N cap : Nat} {L : LT} {p : Option Addr} (h : Kx w W b N cap L p) (n : Nw W V) : Kx w V b N cap L p := by
  obtain ⟨h1, ⟨S, h2, h3, h4⟩, h5⟩ := h
  exact ⟨h1.tr n, ⟨S, h2, h3.nw n, h4⟩, h5.nw n⟩
theorem Kx.more {w W : World} {b N N' cap : Nat} {L : LT} {p : Option Addr} (h : Kx w W b N cap L p) (hN : N ≤ N') : Kx w W b N' cap L p := by
  obtain ⟨h1, ⟨S, h2, h3, h4⟩, h5⟩ := h
  exact ⟨h1, ⟨S, h2, h3.mono (fun _ _ e => e) hN, h4⟩, h5⟩
theorem Kx.al {w W : World} {b N cap : Nat} {L : LT} {p : Option Addr} (h : Kx w W b N cap L p) : Al w W b N cap L := by
  obtain ⟨h1, ⟨S, h2, h3, h4⟩, h5⟩ := h
  exact ⟨h1, h3.mono (fun k _ e => h2 k e) (Nat.le_refl _)⟩
theorem strs_fr {S : Nat → Prop} {W V : World} {p : Option Addr} {K : List ByteArray} (h : Strs W p K) (f : Fr S W V) (hS : K = [] ∨ ∀ g o, p = some ⟨g, o, none⟩ → ¬ S g) : Strs V p K := by
  intro j x hj
  obtain ⟨g, o, hp, hc⟩ := h j x hj
  refine ⟨g, o, hp, ?_⟩
  rcases hS with rfl | hS
  · simp at hj
  · exact (f.cell (World.block_lt_of_cell? W _ hc) (hS g o hp)).trans hc
theorem Kx.get_no {w W : World} {b N cap : Nat} {L : LT} {p : Option Addr} (h : Kx w W b N cap L p) (k : KT) (hk : kok k) (ht : tk L k = none) :
    Calls Tryd.prog 9 #[.pointer (some ⟨b, 0, none⟩), kv k] W fun e W' => e = .returned (.tuple #[vv 0, .bool false]) ∧ Kx w W' b N cap L p := by
  obtain ⟨h1, ⟨S, h2, h3, h4⟩, h5⟩ := h
  have he : getA L k = (0, false, L) := by rw [getA, ht]
  refine (get_any h3 k hk).mono ?_
  rw [he]
  rintro e W' ⟨rfl, C, F⟩
  exact ⟨rfl, h1.trans F (fun j hj e => by have := h2 j e; omega), ⟨S, h2, C, h4⟩, strs_fr h5 F (h4.imp (fun e => by rw [e]; rfl) id)⟩
theorem Kx.get_yes {w W : World} {b N cap : Nat} {L : LT} {p : Option Addr} (h : Kx w W b N cap L p) (k : KT) (hk : kok k) {v : VT} {r : LT} (ht : tk L k = some (v, r)) :
    Calls Tryd.prog 9 #[.pointer (some ⟨b, 0, none⟩), kv k] W fun e W' => e = .returned (.tuple #[vv v, .bool true]) ∧ Al w W' b N cap ((k, v) :: r) ∧ Strs W' p (L.map Prod.fst) := by
  obtain ⟨h1, ⟨S, h2, h3, h4⟩, h5⟩ := h
  have he : getA L k = (v, true, (k, v) :: r) := by rw [getA, ht]
  refine (get_any h3 k hk).mono ?_
  rw [he]
  rintro e W' ⟨rfl, C, F⟩
  exact ⟨rfl, ⟨h1.trans F (fun j hj e => by have := h2 j e; omega), C.mono (fun k _ e => h2 k e) (Nat.le_refl _)⟩, strs_fr h5 F (h4.imp (fun e => by rw [e]; rfl) id)⟩
theorem Kx.put {w W : World} {b N cap : Nat} {L : LT} {p : Option Addr} (h : Kx w W b N cap L p) (k : KT) (v : VT) (hk : kok k) (hN : N < 4611686018427387900) {k' : KT} {f : Bool} {L' : LT} (he : putA cap L k v = (k', f, L')) :
    Calls Tryd.prog 10 #[.pointer (some ⟨b, 0, none⟩), kv k, vv v] W fun e W' => e = .returned (.tuple #[kv k', .bool f]) ∧ Al w W' b (N + 2) cap L' ∧ Strs W' p (L.map Prod.fst) := by
  obtain ⟨h1, ⟨S, h2, h3, h4⟩, h5⟩ := h
  refine (put_any h3 k v hk hN).mono ?_
  rw [he]
  rintro e W' ⟨rfl, C, F⟩
  refine ⟨rfl, ⟨h1.trans F (fun j hj e => by have := h2 j e; omega), C.mono (fun k _ e => e.elim (h2 k) (fun q => Nat.le_trans h1.size q)) (Nat.le_refl _)⟩, strs_fr h5 F (h4.imp (fun e => by rw [e]; rfl) id)⟩
theorem Kx.of {w W V : World} {b N cap : Nat} {L : LT} {p : Option Addr} (h : Al w W b N cap L) (n : Nw W V) (hs : Strs V p (L.map Prod.fst)) (hp : ∀ g o, p = some ⟨g, o, none⟩ → W.heap.size ≤ g) : Kx w V b N cap L p :=
  ⟨h.nw.tr n, ⟨fun k => w.heap.size ≤ k ∧ k < W.heap.size, fun _ e => e.1, (h.cx.mono (S' := fun k => w.heap.size ≤ k ∧ k < W.heap.size) (fun k hk e => ⟨e, hk⟩) (Nat.le_refl _)).nw n, .inr (fun g o e e2 => by have := hp g o e; omega)⟩, hs⟩
theorem Kx.of0 {w W : World} {b N cap : Nat} {p : Option Addr} (h : Al w W b N cap []) : Kx w W b N cap [] p :=
  ⟨h.nw, ⟨fun k => w.heap.size ≤ k, fun _ e => e, h.cx, .inl rfl⟩, fun j x hj => by simp at hj⟩
/-- What is known of the last use that put. -/
def LastOk (U : List UT) (i lst : Nat) (L : LT) : Prop := lst < i + 1 ∧ (lst = i → i = 0) ∧ (0 < i → (U.getD lst u0t).2.2 = true → ∀ z ∈ L, z.1 = (U.getD lst u0t).1 → z.2 = (U.getD lst u0t).2.1)
theorem LastOk.start (U : List UT) : LastOk U 0 0 [] := ⟨by omega, fun _ => rfl, fun h => by omega⟩
theorem LastOk.get {U : List UT} {i lst : Nat} {L L' : LT} (h : LastOk U i lst L) (hp : (U.getD i u0t).2.2 = false) (hL : ∀ z ∈ L', z ∈ L) : LastOk U (i + 1) lst L' := by
  refine ⟨by have := h.1; omega, fun e => by have := h.1; omega, fun _ hq z hz he => ?_⟩
  by_cases h0 : i = 0
  · have := h.1
    have e : lst = i := by omega
    rw [e, hp] at hq
    cases hq
  · exact h.2.2 (by omega) hq z (hL z hz) he
theorem LastOk.put {U : List UT} {i : Nat} {L' : LT} (hd : (L'.map Prod.fst).Nodup) (hm : L' = [] ∨ ∃ r, L' = ((U.getD i u0t).1, (U.getD i u0t).2.1) :: r) : LastOk U (i + 1) i L' := by
  refine ⟨by omega, fun e => by omega, fun _ hq z hz he => ?_⟩
  rcases hm with rfl | ⟨r, rfl⟩
  · simp at hz
  · rcases List.mem_cons.1 hz with rfl | hz
    · rfl
    · simp only [List.map_cons, List.nodup_cons] at hd
      exact absurd (he ▸ List.mem_map.2 ⟨z, hz, rfl⟩) hd.1
end Go.Proofs.YtgdjoaiahigjpaaDoor
