/- plan: the tiles that trees need: one more tree. -/
import Derived.Test.YtjkhcplnedcmeaaGreatDoorYgc
import Derived.Test.YtjkhcplnedcmeaaGreatDoorKg
import Derived.Test.YtjkhcplnedcmeaaGreatDoorYga
namespace Go.Proofs.YtjkhcplnedcmeaaGreatDoor
open Go.RowKit Go.Maps Go.WideMaps
set_option linter.unusedVariables false
set_option linter.unusedSimpArgs false
theorem gen_wq {Q : World → Prop} (P : World → Prop) {W : World} (h : P W) (k : ∀ W, P W → Q W) : Q W := k W h
instance : DecidableEq Ti := fun a b => if h : a.L = b.L ∧ a.I = b.I ∧ a.W = b.W then .isTrue (by obtain ⟨x, y, z⟩ := a; obtain ⟨p, q, r⟩ := b; simp only at h; obtain ⟨rfl, rfl, rfl⟩ := h; rfl) else .isFalse (fun e => h (by subst e; exact ⟨rfl, rfl, rfl⟩))
def tiN (S : Nat) (c : Nat × Nat) : Ti := ⟨c.1 / 8, ofA c.1 c.2 / 256, wid (c.1 / 8) (ofA c.1 c.2 / 256) S⟩
def addT (out : List Ti) (t : Ti) : List Ti := if t ∈ out then out else out ++ [t]
/-- The trees' tiles, as they are met. -/
def tls (S : Nat) (cs : List (Nat × Nat)) : List Ti := cs.foldl (fun o c => addT o (tiN S c)) []
theorem tls_add (S : Nat) (cs : List (Nat × Nat)) (c : Nat × Nat) : tls S (cs ++ [c]) = addT (tls S cs) (tiN S c) := by simp [tls]
theorem addT_len (out : List Ti) (t : Ti) : (addT out t).length ≤ out.length + 1 := by unfold addT; split <;> simp
theorem tls_len (S : Nat) (cs : List (Nat × Nat)) : (tls S cs).length ≤ cs.length := by
  have : ∀ (l : List (Nat × Nat)) (o : List Ti), (l.foldl (fun o c => addT o (tiN S c)) o).length ≤ o.length + l.length := by
    intro l
    induction l with
    | nil => intro o; simp
    | cons c r ih =>
      intro o
      have h1 := ih (addT o (tiN S c))
      have h2 := addT_len o (tiN S c)
      simp only [List.foldl_cons, List.length_cons]
      omega
  simpa [tls] using this cs []
/-- What Tiles keeps, of a world W at its beginning: its size, its tiles, the map of those that were met. -/
structure Tsn (W w : World) (S : Nat) (v : Value) (out : List Ti) : Prop where
  nw : Nw W w
  sz : w.heap[W.heap.size]? = some (.cells #[.int .u64 (S : Int)] 41)
  ts : w.heap[W.heap.size + 1]? = some (.cells #[v] 116)
  mt : w.heap[W.heap.size + 3]? = some (.cells #[.map (some (W.heap.size + 2))] 270)
  own : w.ownsRow (W.heap.size + 4) 120 3 v out.length (tic out)
  mp : ∃ M, TM.Mp w (W.heap.size + 2) out.length M ∧ ∀ k, M k = true ↔ ∃ t ∈ out, k.1 = (t.L, t.I, (t.W : Int))
theorem Tsn.up {W w w' : World} {S : Nat} {v : Value} {out : List Ti} (h : Tsn W w S v out) (n : Nw w w') : Tsn W w' S v out := by
  obtain ⟨M, m1, m2⟩ := h.mp
  exact ⟨h.nw.tr n, (n.block _ (heap_lt h.sz) (fun f => f)).trans h.sz, (n.block _ (heap_lt h.ts) (fun f => f)).trans h.ts, (n.block _ (heap_lt h.mt) (fun f => f)).trans h.mt,
    ownsRow_keep h.own (fun g hg => n.block g (h.own.lt g hg).2 (fun f => f)), M, m1.fr n (fun f => f), m2⟩
theorem infoTl : (Tryz.prog.info? 120).map (fun i => (i.zero, i.size, i.bytes)) = some (some (tl 0 0 0), 3, 24) := by kernel_rfl
theorem info_partsTl : ∃ i, Tryz.prog.info? 120 = some i ∧ i.zero = some (tl 0 0 0) ∧ i.size = 3 ∧ i.bytes = 24 := by
  obtain ⟨i, hi, he⟩ := Option.map_eq_some_iff.1 infoTl
  simp only [Prod.mk.injEq] at he
  exact ⟨i, hi, he.1, he.2.1, he.2.2⟩
theorem tl_new {w : World} (x y z : Value) (t : TypeId) : ∀ j u, [x, y, z][j]? = some u → (w.alloc (.cells #[x, y, z] t)).cell? ((⟨w.heap.size, 0, none⟩ : Addr).add j) = some u := by
  intro j u h
  have hb := heap_new w (.cells #[x, y, z] t)
  obtain ⟨a, b, c⟩ := cell3 hb
  rcases j with _ | _ | _ | j
  · simp at h; subst h; exact a
  · simp at h; subst h; exact b
  · simp at h; subst h; exact c
  · simp at h
theorem Tsn.fin {W w4 w5 w6 w7 : World} {S : Nat} {v v' : Value} {out : List Ti} {t : Ti} {xs : List Value} (h : Tsn W w4 S v out) (hmp : ∃ M, TM.Mp w5 (W.heap.size + 2) (out ++ [t]).length M ∧ ∀ x, M x = true ↔ ∃ u ∈ out ++ [t], x.1 = (u.L, u.I, (u.W : Int)))
    (f5 : Fr (fun j => j = W.heap.size + 2) w4 w5) (n6 : Nw w5 w6) (ho : w7.ownsRow (W.heap.size + 4) 120 3 v' (out.length + 1) (tic out ++ t.c)) (two : Two w6 w7 120 3 v v' out.length 1 xs) :
    Tsn W (w7.setCell ⟨W.heap.size + 1, 0, none⟩ v') S v' (out ++ [t]) := by
  have f6 : Fr (fun j => j = W.heap.size + 2) w4 w6 := f5.trans n6 (fun _ _ q => q.elim)
  have f7 : Fr (fun j => j = W.heap.size + 2 ∨ W.heap.size + 4 ≤ j) w4 w7 := (f6.mono (fun _ _ q => .inl q)).trans two.fr (fun j hj q => .inr (h.own.lt j q).1)
  have l3 := heap_lt h.mt
  have l7 := f7.size
  have b1 : w7.heap[W.heap.size + 1]? = some (.cells #[v] 116) := (f7.block _ (by omega) (by omega)).trans h.ts
  have f8 : Fr (fun j => j = W.heap.size + 1) w7 (w7.setCell ⟨W.heap.size + 1, 0, none⟩ v') := (Fr.refl _ _).setCell _ _ (fun _ => rfl)
  have n7 : Nw W w7 := h.nw.trans f7 (fun j hj q => by omega)
  obtain ⟨M, m1, m2⟩ := hmp
  refine ⟨n7.trans f8 (fun j hj q => by omega), ?_, ?_, ?_, ?_, M, ?_, m2⟩
  · exact (f8.block _ (by omega) (by omega)).trans ((f7.block _ (by omega) (by omega)).trans h.sz)
  · exact hp_set b1 rfl
  · exact (f8.block _ (by omega) (by omega)).trans ((f7.block _ (by omega) (by omega)).trans h.mt)
  · rw [List.length_append, tic_app, tic_one]
    exact ownsRow_setCell_other ho (fun q => by have := (ho.lt _ q).1; simp only at this; omega) _
  · have hv : ¬ v.ownBlock = some (W.heap.size + 2) := fun q => by have := (h.own.lt _ q).1; omega
    exact ((m1.fr n6 (fun q => q.elim)).fr two.fr hv).fr f8 (by omega)
set_option maxRecDepth 100000 in
set_option maxHeartbeats 4000000 in
theorem pclo_yes {W w : World} {S : Nat} {v : Value} {out : List Ti} (h : Tsn W w S v out) (L I : Nat) (hg : gdT S (L, I)) (hS : S ≤ 9223372036854775808) (hl : out.length ≤ 1099511627776) :
    Calls Tryz.prog 164 #[cd L I, .pointer (some ⟨W.heap.size, 0, none⟩), .pointer (some ⟨W.heap.size + 3, 0, none⟩), .pointer (some ⟨W.heap.size + 1, 0, none⟩)] w fun e w' => e = .returned .nilIface ∧ ∃ v', Tsn W w' S v' (addT out (tiN S (L, I))) := by
  have hw := wid_le (L / 8) (ofA L I / 256) S
  have hb : ofA L I < 9223372036854775808 ∨ ofA L I ≤ 9223372036854775807 ∨ ofA L I ≤ 9223372036854775808 := by have : ofA L I ≤ 9223372036854775808 := Nat.le_of_lt (by have := ofA_bd hg.1; simpa using this); exact .inr (.inr this)
  have hL := hg.1.1
  obtain ⟨t, ht⟩ : ∃ t, t = tiN S (L, I) := ⟨_, rfl⟩
  have q := ptile_yes S L I hg hS
  obtain ⟨l, i, u⟩ := t
  have e1 : L / 8 = l := congrArg Ti.L ht.symm
  have e2 : ofA L I / 256 = i := congrArg Ti.I ht.symm
  have e3 : wid (L / 8) (ofA L I / 256) S = u := congrArg Ti.W ht.symm
  rw [e3, e1, e2] at q
  rw [← ht]
  have hl8 : l ≤ 255 := by omega
  have hi8 : i < 18446744073709551616 := by omega
  have hu8 : u ≤ 256 := by omega
  have QT : Hid (∀ V, Calls Tryz.prog 165 #[cd L I, .int .u64 (S : Int)] V fun e w' => e = .returned (.tuple #[tl l i u, .nilIface]) ∧ Nw V w') := q
  clear q e1 e2 e3 ht hw hb hL hg
  obtain ⟨n, hn⟩ : ∃ n, n = W.heap.size := ⟨_, rfl⟩
  have HN : Hid (n = W.heap.size) := hn
  have H1 : Hid (Tsn W (w.alloc (.cells #[.int .u8 (L : Int), .int .u64 (I : Int)] 273)) S v out) := h.up (nwa w _)
  have c0 := cell1 H1.out.sz
  have lw := h.nw.size
  rw [← hn] at c0 lw ⊢
  clear hn h
  go_enter Tryz.func164, Tryz.ntmps164
  go_wp2_with fail
  refine (QT.out _).mono ?_
  rintro e w2 ⟨rfl, n2⟩
  have T2 : Hid (Tsn W w2 S v out) := H1.out.up n2
  clear n2 c0
  go_upto_region 4 with fail
  refine gen_wq (fun V => Tsn W V S v out ∧ V.heap[w2.heap.size]? = some (.cells #[.int .u8 (l : Int), .int .u64 (i : Int), .int .i64 (u : Int)] 120)) ?_ ?_
  · refine ⟨T2.out.up (by repeat first | with_reducible exact nwr w2 | with_reducible refine Fr.alloc ?_ _ | with_reducible refine Fr.drew ?_ | (with_reducible refine Fr.setCell ?_ _ _ (fun h => ?_); rotate_left; focus (simp only at h; omega))), by (repeat first | with_reducible exact heap_new _ _ | with_reducible exact heap_new _ _ | with_reducible exact heap_next _ _ _ | with_reducible exact heap_third _ _ _ _ | with_reducible refine hp_dr ?_ | (with_reducible refine hp_ne ?_ ?_; focus omega) | (with_reducible refine hp_al ?_ ?_; focus (first | omega | (simp <;> omega))) | with_reducible apply hp_set) <;> rfl⟩
  rintro w3 ⟨t3, b3⟩
  obtain ⟨M, m1, m2⟩ := t3.mp
  obtain ⟨k, hk⟩ : ∃ k : TM.KT, k.1 = (l, i, (u : Int)) := ⟨⟨(l, i, (u : Int)), hl8, hi8, by show (_ : Int) ≤ (u : Int); omega, by show (u : Int) ≤ _; omega⟩, rfl⟩
  have hlk := m1.look k trivial
  have hkv : TM.kv k = .agg #[.int .u8 (l : Int), .int .u64 (i : Int), .int .i64 (u : Int)] := by show Value.agg #[.int .u8 (k.1.1 : Int), .int .u64 (k.1.2.1 : Int), .int .i64 k.1.2.2] = _; rw [hk]
  rw [hkv] at hlk
  have HM2 := m2 k
  obtain ⟨bm, hbm⟩ : ∃ b, b = n + 2 := ⟨_, rfl⟩
  have HBM : Hid (bm = n + 2) := hbm
  have T3 : Hid (Tsn W w3 S v out) := t3
  have y0 := cell1 t3.mt
  rw [← HN.out, ← hbm] at y0
  rw [← HN.out, ← hbm] at hlk
  obtain ⟨d0, d1, d2⟩ := cell3 b3
  have lx := heap_lt b3
  have l3 := heap_lt t3.mt
  rw [← HN.out] at l3
  have HB3 : Hid (w3.heap[w2.heap.size]? = some (.cells #[.int .u8 (l : Int), .int .u64 (i : Int), .int .i64 (u : Int)] 120)) := b3
  by_cases hin : (⟨l, i, u⟩ : Ti) ∈ out
  · have hMt : M k = true := HM2.2 ⟨_, hin, hk⟩
    have HA : Hid (addT out ⟨l, i, u⟩ = out) := by show _ = _; unfold addT; rw [if_pos hin]
    rw [hMt] at hlk
    clear hMt hin HM2 m1 m2 t3 b3 hkv hbm
    go_wp2
    go_ret
    exact ⟨rfl, v, by rw [HA.out]; exact T3.out.up (by repeat first | with_reducible exact nwr w3 | with_reducible refine Fr.alloc ?_ _ | with_reducible refine Fr.drew ?_ | (with_reducible refine Fr.setCell ?_ _ _ (fun h => ?_); rotate_left; focus (simp only at h; omega)))⟩
  · have hMf : M k = false := by
      cases hc : M k with
      | false => rfl
      | true =>
        exfalso
        obtain ⟨⟨tl, ti, tw⟩, h1, h2⟩ := HM2.1 hc
        rw [hk] at h2
        simp only [Prod.mk.injEq] at h2
        obtain ⟨rfl, rfl, h3⟩ := h2
        obtain rfl : tw = u := by omega
        exact hin h1
    have HA : Hid (addT out ⟨l, i, u⟩ = out ++ [⟨l, i, u⟩]) := by show _ = _; unfold addT; rw [if_neg hin]
    have HNI : Hid ((⟨l, i, u⟩ : Ti) ∉ out) := hin
    rw [hMf] at hlk
    clear hMf hin HM2 m1 m2 t3 b3 hbm
    go_upto_region 6 with fail
    refine gen_wq (fun V => Tsn W V S v out ∧ V.heap[w2.heap.size]? = some (.cells #[.int .u8 (l : Int), .int .u64 (i : Int), .int .i64 (u : Int)] 120)) ⟨T3.out.up (by repeat first | with_reducible exact nwr w3 | with_reducible refine Fr.alloc ?_ _ | with_reducible refine Fr.drew ?_ | (with_reducible refine Fr.setCell ?_ _ _ (fun h => ?_); rotate_left; focus (simp only at h; omega))), by (repeat first | with_reducible exact HB3.out | with_reducible exact heap_new _ _ | with_reducible exact heap_next _ _ _ | with_reducible exact heap_third _ _ _ _ | with_reducible refine hp_dr ?_ | (with_reducible refine hp_ne ?_ ?_; focus omega) | (with_reducible refine hp_al ?_ ?_; focus (first | omega | (simp <;> omega))) | with_reducible apply hp_set) <;> rfl⟩ ?_
    rintro w4 ⟨t4, b4⟩
    have T4 : Hid (Tsn W w4 S v out) := t4
    have HB4 : Hid (w4.heap[w2.heap.size]? = some (.cells #[.int .u8 (l : Int), .int .u64 (i : Int), .int .i64 (u : Int)] 120)) := b4
    obtain ⟨M4, m4, m5⟩ := t4.mp
    obtain ⟨w5, r5, p5, f5⟩ := m4.put k trivial (by omega)
    rw [hkv] at r5
    rw [← HN.out, ← HBM.out] at r5 p5 f5
    have HMP : Hid (∃ M, TM.Mp w5 (W.heap.size + 2) (out ++ [(⟨l, i, u⟩ : Ti)]).length M ∧ ∀ x, M x = true ↔ ∃ y ∈ out ++ [(⟨l, i, u⟩ : Ti)], x.1 = (y.L, y.I, (y.W : Int))) := by
      have e1 : bm = W.heap.size + 2 := by rw [HBM.out, HN.out]
      rw [e1] at p5 f5
      refine ⟨_, by rw [List.length_append]; exact p5, fun x => ?_⟩
      by_cases hx : x = k
      · subst hx
        rw [TM.putP_same]
        constructor
        · intro _
          exact ⟨(⟨l, i, u⟩ : Ti), by simp, hk⟩
        · intro _; rfl
      · rw [TM.putP_other _ hx, m5 x]
        constructor
        · rintro ⟨y, hy, e⟩
          exact ⟨y, by simp [hy], e⟩
        · rintro ⟨y, hy, e⟩
          rcases List.mem_append.1 hy with hy | hy
          · exact ⟨y, hy, e⟩
          · simp at hy
            subst hy
            exact absurd (Subtype.ext (e.trans hk.symm)) hx
    have F5 : Hid (Fr (fun j => j = bm) w4 w5) := f5
    have hL3 := heap_lt T2.out.mt
    rw [← HN.out] at hL3
    have hbm2 : w2.heap.size ≠ bm := by have := HBM.out; omega
    have B5 : w5.heap[w2.heap.size]? = some (.cells #[.int .u8 (l : Int), .int .u64 (i : Int), .int .i64 (u : Int)] 120) := (f5.block _ (heap_lt b4) hbm2).trans b4
    obtain ⟨x0, x1, x2⟩ := cell3 B5
    have z4 := cell1 t4.mt
    rw [← HN.out, ← HBM.out] at z4
    obtain ⟨g0, g1, g2⟩ := cell3 b4
    have t5 : w5.heap[n + 1]? = some (.cells #[v] 116) := (f5.block _ (by rw [HN.out]; exact heap_lt t4.ts) (by have := HBM.out; omega)).trans (by rw [HN.out]; exact t4.ts)
    have v5 := cell1 t5
    have fz5 := frozen_of t5 0
    have HT5 : Hid (w5.heap[n + 1]? = some (.cells #[v] 116)) := t5
    have own5 : w5.ownsRow (n + 4) 120 3 v out.length (tic out) := by
      rw [HN.out]
      exact ownsRow_keep t4.own (fun g hg => f5.block g (t4.own.lt g hg).2 (by have := (t4.own.lt g hg).1; have := HBM.out; have := HN.out; omega))
    have HO6 : Hid ((w5.alloc (.cells #[.int .u8 (l : Int), .int .u64 (i : Int), .int .i64 (u : Int)] 120)).ownsRow (n + 4) 120 3 v out.length (tic out)) := own5.alloc _
    have HNew : Hid (∀ j y, [Value.int .u8 (l : Int), .int .u64 (i : Int), .int .i64 (u : Int)][j]? = some y → (w5.alloc (.cells #[.int .u8 (l : Int), .int .u64 (i : Int), .int .i64 (u : Int)] 120)).cell? ((⟨w5.heap.size, 0, none⟩ : Addr).add j) = some y) := tl_new (w := w5) _ _ _ _
    obtain ⟨i0, hi, hz0, hz1, hz2⟩ := info_partsTl
    have l5 := heap_lt B5
    have hbase : n + 4 ≤ (w5.alloc (.cells #[.int .u8 (l : Int), .int .u64 (i : Int), .int .i64 (u : Int)] 120)).heap.size := by simp; omega
    have lt5 := heap_lt t5
    clear p5 f5 m4 m5 t4 b4 B5 hkv own5 t5 hlk hbm2 hL3 d0 d1 d2 y0 lx
    go_wp2_with (at_builtin; refine wpList_two _ rfl (.tmp 30) (.tmp 32) 116 rfl (n + 4) 120 i0 (tl 0 0 0) 3 24 Tryz.underlying116 hi hz0 hz1 hz2 rfl (by decide) v out.length (tic out) rfl HO6.out ⟨w5.heap.size, 0, none⟩ 1 1 [.int .u8 (l : Int), .int .u64 (i : Int), .int .i64 (u : Int)] rfl rfl HNew.out (by simp [Value.oneCell']) (by unfold maxLen; omega) (by omega) hbase ?_; intro v' w7 hown' htwo; obtain ⟨va, vc, rfl⟩ := ownsRow_form hown'; have t7 : w7.heap[n + 1]? = some (.cells #[v] 116) := (htwo.fr.block _ (by simp; omega) (fun q => by have := (HO6.out.lt _ q).1; omega)).trans (hp_al lt5 HT5.out); have y7 := cell1 t7; have q7 := frozen_of t7 0; have l7 := heap_lt t7; have HW7 : Hid (w7.ownsRow (n + 4) 120 3 (.slice va (out.length + 1) vc) (out.length + 1) (tic out ++ [.int .u8 (l : Int), .int .u64 (i : Int), .int .i64 (u : Int)])) := hown'; have HTW : Hid (Two (w5.alloc (.cells #[.int .u8 (l : Int), .int .u64 (i : Int), .int .i64 (u : Int)] 120)) w7 120 3 v (.slice va (out.length + 1) vc) out.length 1 (tic out ++ [.int .u8 (l : Int), .int .u64 (i : Int), .int .i64 (u : Int)])) := htwo; clear t7 hown' htwo)
    go_ret
    have e1 : bm = W.heap.size + 2 := by rw [HBM.out, HN.out]
    have := Tsn.fin (t := ⟨l, i, u⟩) T4.out HMP.out (by rw [← e1]; exact F5.out) (nwa _ _) (by rw [← HN.out]; exact HW7.out) HTW.out
    rw [← HN.out] at this
    exact ⟨rfl, _, by rw [HA.out]; exact this⟩
end Go.Proofs.YtjkhcplnedcmeaaGreatDoor
namespace Go.Proofs.YtjkhcplnedcmeaaGreatDoor
open Go.RowKit Go.Maps Go.WideMaps
set_option linter.unusedVariables false
set_option linter.unusedSimpArgs false
/-- Parts in memory. -/
def Prt (w : World) (v : Value) (ls : List (List (Nat × Nat))) : Prop :=
  ∃ ad cap, v = .slice ad ls.length cap ∧ ∀ k l, ls[k]? = some l → ∃ g off x, ad = some ⟨g, off, none⟩ ∧ g < w.heap.size ∧ w.cell? ⟨g, off + k, none⟩ = some x ∧ Crd w x l
theorem Prt.nw {w w' : World} {v : Value} {ls : List (List (Nat × Nat))} (h : Prt w v ls) (n : Nw w w') : Prt w' v ls := by
  obtain ⟨ad, cap, rfl, h⟩ := h
  refine ⟨ad, cap, rfl, fun k t ht => ?_⟩
  obtain ⟨g, off, x, rfl, h1, h2, h3⟩ := h k t ht
  exact ⟨g, off, x, rfl, Nat.lt_of_lt_of_le h1 n.size, n.cellOf h2, h3.nw n⟩
theorem Prt.of {w : World} {base : Nat} {v : Value} {xs : List Value} {ls : List (List (Nat × Nat))} (h : Pts w base v xs ls) : Prt w v ls := by
  obtain ⟨ho, hr⟩ := h
  have hlt := ho.lt
  rcases ho.2 with ⟨rfl, hn⟩ | ⟨g, cap, cur, rfl, _⟩
  · have : ls = [] := List.length_eq_zero_iff.1 hn
    subst this
    exact ⟨none, 0, rfl, fun k t ht => by simp at ht⟩
  · refine ⟨_, _, rfl, fun k l hl => ?_⟩
    have hk : k < xs.length := by rw [hr.1]; exact (List.getElem?_eq_some_iff.1 hl).1
    have hx : xs[k]? = some xs[k] := List.getElem?_eq_getElem hk
    have := ho.cells (g := g) rfl k _ hx
    rw [addZ] at this
    exact ⟨g, 0, xs[k], rfl, (hlt g rfl).2, by rw [Nat.zero_add]; exact this, Crd.of (hr.2.1 k _ l hx hl)⟩
/-- All trees are a log's. -/
def gdA (S : Nat) (cs : List (Nat × Nat)) : Prop := ∀ c ∈ cs, gdT S c
set_option maxHeartbeats 2000000 in
theorem pclo_no {W w : World} {S : Nat} {v : Value} {out : List Ti} (h : Tsn W w S v out) (L I : Nat) (hg : ¬ gdT S (L, I)) (hL : L ≤ 255) (hI : I < 18446744073709551616) (hS : S ≤ 9223372036854775808) {B : Nat} {a : Nat → Addr} (hSe : Sent B w a) :
    Calls Tryz.prog 164 #[cd L I, .pointer (some ⟨W.heap.size, 0, none⟩), .pointer (some ⟨W.heap.size + 3, 0, none⟩), .pointer (some ⟨W.heap.size + 1, 0, none⟩)] w fun e w' => e = .returned (sen (a 4)) ∧ Nw w w' := by
  have QT : Hid (∀ V, Nw w V → Calls Tryz.prog 165 #[cd L I, .int .u64 (S : Int)] V fun e w' => e = .returned (.tuple #[tl 0 0 0, sen (a 4)]) ∧ Nw V w') := fun V nV => ptile_no S L I hg hL hI hS V (hSe.fr nV (fun _ _ f => f))
  have H1 : Hid (Tsn W (w.alloc (.cells #[.int .u8 (L : Int), .int .u64 (I : Int)] 273)) S v out) := h.up (nwa w _)
  have c0 := cell1 H1.out.sz
  have lw := h.nw.size
  clear hg hSe h
  go_enter Tryz.func164, Tryz.ntmps164
  go_wp2_with fail
  refine (QT.out _ (by repeat first | with_reducible exact nwr w | with_reducible refine Fr.alloc ?_ _ | with_reducible refine Fr.drew ?_ | (with_reducible refine Fr.setCell ?_ _ _ (fun h => ?_); rotate_left; focus (simp only at h; omega)))).mono ?_
  rintro e w2 ⟨rfl, n2⟩
  have N2 : Hid (Nw w w2) := Nw.tr (nwa w _) n2
  clear n2 c0
  go_wp2
  go_ret
  exact ⟨rfl, (by repeat first | with_reducible exact N2.out | with_reducible refine Fr.alloc ?_ _ | with_reducible refine Fr.drew ?_ | (with_reducible refine Fr.setCell ?_ _ _ (fun h => ?_); rotate_left; focus (simp only at h; omega)))⟩
set_option maxRecDepth 100000 in
set_option maxHeartbeats 4000000 in
theorem peach_any {W w : World} {S : Nat} (h : Tsn W w S (.slice none 0 0) []) (u : Value) (ls : List (List (Nat × Nat))) (hu : Prt W u ls) (hb : ∀ c ∈ ls.flatten, c.1 ≤ 255 ∧ c.2 < 18446744073709551616) (hS : S ≤ 9223372036854775808) (hl : ls.length ≤ 1099511627776) (hl2 : ls.flatten.length ≤ 1099511627776) (hl3 : ∀ l ∈ ls, l.length ≤ 1099511627776)
    {B : Nat} {a : Nat → Addr} (hSe : Sent B W a) :
    Calls Tryz.prog 163 #[u, .func (.func 164) #[] #[.pointer (some ⟨W.heap.size, 0, none⟩), .pointer (some ⟨W.heap.size + 3, 0, none⟩), .pointer (some ⟨W.heap.size + 1, 0, none⟩)]] w fun e w' =>
      (gdA S ls.flatten → e = .returned .nilIface ∧ ∃ v', Tsn W w' S v' (tls S ls.flatten)) ∧ (¬ gdA S ls.flatten → e = .returned (sen (a 4)) ∧ Nw W w') := by
  obtain ⟨ad, ca, rfl, hu⟩ := hu
  have HU : Hid (∀ k l, ls[k]? = some l → ∃ g off x, ad = some ⟨g, off, none⟩ ∧ g < W.heap.size ∧ W.cell? ⟨g, off + k, none⟩ = some x ∧ Crd W x l) := hu
  have HB : Hid (∀ c ∈ ls.flatten, c.1 ≤ 255 ∧ c.2 < 18446744073709551616) := hb
  have HL2 : Hid (ls.flatten.length ≤ 1099511627776) := hl2
  have HL3 : Hid (∀ l ∈ ls, l.length ≤ 1099511627776) := hl3
  have HSe : Hid (Sent B W a) := hSe
  have HT : Hid (Tsn W w S (.slice none 0 0) []) := h
  clear hu hb h hSe hl2 hl3
  obtain ⟨n, hn⟩ : ∃ n, n = ls.length := ⟨_, rfl⟩
  have HN : Hid (n = ls.length) := hn
  rw [← hn] at hl ⊢
  clear hn
  obtain ⟨p0, hp0⟩ : ∃ p, p = W.heap.size := ⟨_, rfl⟩
  have HP0 : Hid (p0 = W.heap.size) := hp0
  rw [← hp0]
  clear hp0
  go_enter Tryz.func163, Tryz.ntmps163
  go_wp2
  go_loopw [12] (fun i wr => ∃ (k : Nat), k ≤ n ∧ i = .int .i64 k ∧ gdA S (ls.take k).flatten ∧ ∃ v, Tsn W wr S v (tls S (ls.take k).flatten)) (fun i _ => n - (intOf i).toNat)
  case atStart => exact ⟨0, by omega, rfl, (fun c hc => by simp at hc), _, HT.out⟩
  case round =>
    obtain ⟨k, hk, rfl, hgd, v, hts⟩ := hrel
    have HG : Hid (gdA S (ls.take k).flatten) := hgd
    have HTS : Hid (Tsn W wr S v (tls S (ls.take k).flatten)) := hts
    have HNW : Hid (Nw W wr) := hts.nw
    clear hgd hts
    by_cases hlt : k < n
    · obtain ⟨l, hl9⟩ : ∃ l, ls[k]? = some l := ⟨_, List.getElem?_eq_getElem (by rw [← HN.out]; exact hlt)⟩
      obtain ⟨g, off, x, rfl, g1, g2, g3⟩ := HU.out k l hl9
      have HK : Hid (ls[k]? = some l) := hl9
      have g2' := HNW.out.cellOf g2
      obtain ⟨bd, cb, rfl, hc⟩ := g3
      have HC : Hid (∀ k t, l[k]? = some t → ∃ g off, bd = some ⟨g, off, none⟩ ∧ g < W.heap.size ∧ W.cell? ⟨g, off + k * 2, none⟩ = some (.int .u8 (t.1 : Int)) ∧ W.cell? ⟨g, off + k * 2 + 1, none⟩ = some (.int .u64 (t.2 : Int))) := hc
      have hml := HL3.out l (List.mem_of_getElem? hl9)
      obtain ⟨m, hm⟩ : ∃ m, m = l.length := ⟨_, rfl⟩
      have HM : Hid (m = l.length) := hm
      rw [← hm] at g2' hml
      clear g2 hc hl9 hm
      have hki : (k : Int) < (n : Int) := by omega
      go_wp2
      go_loopw [19] (fun i wr => ∃ (j : Nat), j ≤ m ∧ i = .int .i64 j ∧ gdA S ((ls.take k).flatten ++ l.take j) ∧ ∃ v, Tsn W wr S v (tls S ((ls.take k).flatten ++ l.take j))) (fun i _ => m - (intOf i).toNat)
      case atStart => exact ⟨0, by omega, rfl, by simpa using HG.out, v, by simpa using HTS.out.up (by repeat first | with_reducible exact nwr wr | with_reducible refine Fr.alloc ?_ _ | with_reducible refine Fr.drew ?_ | (with_reducible refine Fr.setCell ?_ _ _ (fun h => ?_); rotate_left; focus (simp only at h; omega)))⟩
      case round =>
        obtain ⟨j, hj, rfl, hgd, v2, hts2⟩ := hrel
        have HG2 : Hid (gdA S ((ls.take k).flatten ++ l.take j)) := hgd
        have HT2 : Hid (Tsn W wr S v2 (tls S ((ls.take k).flatten ++ l.take j))) := hts2
        have HN2 : Hid (Nw W wr) := hts2.nw
        clear hgd hts2
        by_cases hlj : j < m
        · obtain ⟨t, ht⟩ : ∃ t, l[j]? = some t := ⟨_, List.getElem?_eq_getElem (by rw [← HM.out]; exact hlj)⟩
          obtain ⟨h, of2, rfl, q1, q2, q3⟩ := HC.out j t ht
          obtain ⟨L, I⟩ := t
          have q2' := HN2.out.cellOf q2
          have q3' := HN2.out.cellOf q3
          have hji : (j : Int) < (m : Int) := by omega
          have hmem : (L, I) ∈ ls.flatten := List.mem_flatten.2 ⟨l, List.mem_of_getElem? HK.out, List.mem_of_getElem? ht⟩
          obtain ⟨b1, b2⟩ := HB.out _ hmem
          simp only at b1 b2
          have HJ : Hid ((ls.take k).flatten ++ l.take (j + 1) = ((ls.take k).flatten ++ l.take j) ++ [(L, I)]) := by show _ = _; rw [List.take_add_one, ht]; simp
          have HLN : Hid ((tls S ((ls.take k).flatten ++ l.take j)).length ≤ 1099511627776) := by
            refine Nat.le_trans (tls_len _ _) (Nat.le_trans ?_ HL2.out)
            have e1 : ls = ls.take k ++ l :: ls.drop (k + 1) := by
              have h1 := (List.getElem?_eq_some_iff.1 HK.out)
              obtain ⟨hk1, hk2⟩ := h1
              rw [← hk2, ← List.drop_eq_getElem_cons hk1, List.take_append_drop]
            have e2 : ls.flatten.length = (ls.take k).flatten.length + (l.length + (ls.drop (k + 1)).flatten.length) := by
              conv => lhs; rw [e1]
              simp [List.length_append]
            rw [e2, List.length_append, List.length_take]
            omega
          clear q2 q3 ht
          by_cases hg : gdT S (L, I)
          · have HQ : Hid (∀ V, Nw wr V → Calls Tryz.prog 164 #[cd L I, .pointer (some ⟨p0, 0, none⟩), .pointer (some ⟨p0 + 3, 0, none⟩), .pointer (some ⟨p0 + 1, 0, none⟩)] V fun e w' => e = .returned .nilIface ∧ ∃ v', Tsn W w' S v' (addT (tls S ((ls.take k).flatten ++ l.take j)) (tiN S (L, I)))) := fun V nV => by
              have := pclo_yes (HT2.out.up nV) L I hg hS HLN.out
              rw [← HP0.out] at this
              exact this
            have HGT : Hid (gdT S (L, I)) := hg
            clear hg b1 b2 hmem
            go_wp2_with fail
            refine (HQ.out _ (by repeat first | with_reducible exact nwr wr | with_reducible refine Fr.alloc ?_ _ | with_reducible refine Fr.drew ?_ | (with_reducible refine Fr.setCell ?_ _ _ (fun h => ?_); rotate_left; focus (simp only at h; omega)))).mono ?_
            rintro e w5 ⟨rfl, v5, t5⟩
            have HT5 : Hid (Tsn W w5 S v5 (addT (tls S ((ls.take k).flatten ++ l.take j)) (tiN S (L, I)))) := t5
            clear t5
            go_wp2
            refine ⟨⟨j + 1, by omega, by go_num, ?_, v5, ?_⟩, by simp [intOf]; omega⟩
            · rw [HJ.out]
              intro c hc
              rcases List.mem_append.1 hc with hc | hc
              · exact HG2.out c hc
              · simp at hc
                subst hc
                exact HGT.out
            · rw [HJ.out, tls_add]
              exact HT5.out
          · have HQ : Hid (∀ V, Nw wr V → Calls Tryz.prog 164 #[cd L I, .pointer (some ⟨p0, 0, none⟩), .pointer (some ⟨p0 + 3, 0, none⟩), .pointer (some ⟨p0 + 1, 0, none⟩)] V fun e w' => e = .returned (sen (a 4)) ∧ Nw V w') := fun V nV => by
              have := pclo_no (HT2.out.up nV) L I hg b1 b2 hS (HSe.out.fr (HN2.out.tr nV) (fun _ _ f => f))
              rw [← HP0.out] at this
              exact this
            have HNG : Hid (¬ gdA S ls.flatten) := fun q => hg (q _ hmem)
            clear hg b1 b2 hmem
            go_wp2_with fail
            refine (HQ.out _ (by repeat first | with_reducible exact nwr wr | with_reducible refine Fr.alloc ?_ _ | with_reducible refine Fr.drew ?_ | (with_reducible refine Fr.setCell ?_ _ _ (fun h => ?_); rotate_left; focus (simp only at h; omega)))).mono ?_
            rintro e w5 ⟨rfl, n5⟩
            have N5 : Hid (Nw W w5) := HN2.out.tr (Nw.tr (nwa wr _) n5)
            clear n5
            go_wp2
            go_ret
            exact ⟨fun q => absurd q HNG.out, fun _ => ⟨rfl, N5.out⟩⟩
        · obtain rfl : j = m := by omega
          have hT : l.take j = l := List.take_of_length_le (by rw [HM.out]; exact Nat.le_refl _)
          have hK2 : (ls.take (k + 1)).flatten = (ls.take k).flatten ++ l := by rw [List.take_add_one, HK.out]; simp
          rw [hT, ← hK2] at HG2 HT2
          clear hT hK2
          go_wp2
          exact ⟨⟨k + 1, by omega, by go_num, HG2.out, v2, HT2.out⟩, by simp [intOf]; omega⟩
    · obtain rfl : k = n := by omega
      have hT : ls.take k = ls := List.take_of_length_le (by rw [HN.out]; exact Nat.le_refl _)
      rw [hT] at HG HTS
      go_wp2
      go_ret
      exact ⟨fun _ => ⟨rfl, v, HTS.out⟩, fun q => absurd HG.out q⟩
set_option maxRecDepth 100000 in
set_option maxHeartbeats 4000000 in
theorem ptiles_any (u : Value) (ls : List (List (Nat × Nat))) (S : Nat) (w : World) (hu : Prt w u ls) (hb : ∀ c ∈ ls.flatten, c.1 ≤ 255 ∧ c.2 < 18446744073709551616) (hS : S ≤ 9223372036854775808) (hl : ls.length ≤ 1099511627776) (hl2 : ls.flatten.length ≤ 1099511627776) (hl3 : ∀ l ∈ ls, l.length ≤ 1099511627776)
    {B : Nat} {a : Nat → Addr} (hSe : Sent B w a) :
    Calls Tryz.prog 128 #[u, .int .u64 (S : Int)] w fun e w' =>
      (gdA S ls.flatten → ∃ v, e = .returned (.tuple #[v, .nilIface]) ∧ w'.ownsRow w.heap.size 120 3 v (tls S ls.flatten).length (tic (tls S ls.flatten)) ∧ Nw w w') ∧ (¬ gdA S ls.flatten → e = .returned (.tuple #[.slice none 0 0, sen (a 4)]) ∧ Nw w w') := by
  have HQ : Hid (∀ V, Tsn w V S (.slice none 0 0) [] → _) := fun V hV => peach_any hV u ls hu hb hS hl hl2 hl3 hSe
  have hSi : ¬ (9223372036854775808 : Int) < (S : Int) := by omega
  have hmm := @run_makeMap Tryz.prog
  have hd1 : decide ((9223372036854775808 : Int) < (S : Int)) = false := by simp; omega
  clear hb hl hl2 hl3 hSe
  obtain ⟨ad, ca, rfl, hu⟩ := hu
  clear hu
  go_enter Tryz.func128, Tryz.ntmps128
  go_wp2_with fail
  refine (HQ.out _ ?t1).mono ?_
  case t1 =>
    refine ⟨(by repeat first | with_reducible exact nwr w | with_reducible refine Fr.alloc ?_ _ | with_reducible refine Fr.drew ?_ | (with_reducible refine Fr.setCell ?_ _ _ (fun h => ?_); rotate_left; focus (simp only at h; omega))), ?_, ?_, ?_, World.ownsRow_nil _ _ _ _, fun _ => false, ?_, fun k => by simp⟩
    · (repeat first | with_reducible exact heap_new _ _ | with_reducible exact heap_new _ _ | with_reducible exact heap_next _ _ _ | with_reducible exact heap_third _ _ _ _ | with_reducible refine hp_dr ?_ | (with_reducible refine hp_ne ?_ ?_; focus omega) | (with_reducible refine hp_al ?_ ?_; focus (first | omega | (simp <;> omega))) | with_reducible apply hp_set) <;> rfl
    · (repeat first | with_reducible exact heap_next _ _ _ | with_reducible exact heap_new _ _ | with_reducible exact heap_next _ _ _ | with_reducible exact heap_third _ _ _ _ | with_reducible refine hp_dr ?_ | (with_reducible refine hp_ne ?_ ?_; focus omega) | (with_reducible refine hp_al ?_ ?_; focus (first | omega | (simp <;> omega))) | with_reducible apply hp_set) <;> rfl
    · have h0 := heap_new (((w.alloc (.cells #[.int .u64 (S : Int)] 41)).alloc (.cells #[.slice none 0 0] 116)).alloc (.map #[] 0)) (.cells #[.map (some (w.heap.size + 1 + 1))] 270)
      simp only [World.size_alloc] at h0
      exact h0
    · have m0 := TM.Mp.made ((w.alloc (.cells #[.int .u64 (S : Int)] 41)).alloc (.cells #[.slice none 0 0] 116))
      simp only [World.size_alloc] at m0
      exact m0.fr (nwa _ _) (fun q => q)
  rintro e w2 ⟨q1, q2⟩
  by_cases hg : gdA S ls.flatten
  · obtain ⟨rfl, v', t2⟩ := q1 hg
    have HT2 : Hid (Tsn w w2 S v' (tls S ls.flatten)) := t2
    obtain ⟨va, vc, rfl⟩ := ownsRow_form t2.own
    have y0 := cell1 t2.ts
    have HG : Hid (gdA S ls.flatten) := hg
    clear q1 q2 hg t2
    go_wp2
    exact bodyPost_ret (v := .tuple #[.slice va (tls S ls.flatten).length vc, .nilIface]) (by simp [results, Tryz.results128]) rfl ⟨fun _ => ⟨_, rfl, ownsRow_base HT2.out.own (by omega), HT2.out.nw⟩, fun q => absurd HG.out q⟩
  · obtain ⟨rfl, n2⟩ := q2 hg
    have HG : Hid (¬ gdA S ls.flatten) := hg
    have N2 : Hid (Nw w w2) := n2
    clear q1 q2 hg n2
    go_wp2
    exact bodyPost_ret (v := .tuple #[.slice none 0 0, sen (a 4)]) (by simp [results, Tryz.results128]) rfl ⟨fun q => absurd q HG.out, fun _ => ⟨rfl, N2.out⟩⟩
end Go.Proofs.YtjkhcplnedcmeaaGreatDoor
