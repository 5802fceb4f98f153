/- cache: a cache as a list of keys and values, the newest first; New, Get, Drop, Len. -/
import Derived.Test.YtgdjoaiahigjpaaGreatDoorKe
import Derived.Deep.DeepCutAuto
namespace Go.Proofs.YtgdjoaiahigjpaaGreatDoor.CI
open Go.RowKit Go.Maps Go.WideMaps Go.Proofs.YtgdjoaiahigjpaaGreatDoor
set_option linter.unusedVariables false
set_option linter.unusedSimpArgs false
abbrev LT := List (KT × VT)
open Classical in
/-- The thing of a key is taken out of the list. -/
noncomputable def tk : LT → KT → Option (VT × LT)
  | [], _ => none
  | z :: r, k => if z.1 = k then some (z.2, r) else (tk r k).map fun x => (x.1, z :: x.2)
theorem tk_none : ∀ {L : LT} {k : KT}, (∀ z ∈ L, z.1 ≠ k) → tk L k = none
  | [], _, _ => rfl
  | z :: r, k, h => by rw [tk, if_neg (h z (by simp)), tk_none (fun y hy => h y (by simp [hy]))]; rfl
theorem tk_some : ∀ {A B : LT} {k : KT} {v : VT}, (∀ z ∈ A, z.1 ≠ k) → tk (A ++ (k, v) :: B) k = some (v, A ++ B)
  | [], B, k, v, _ => by simp [tk]
  | z :: A, B, k, v, h => by
    rw [List.cons_append, tk, if_neg (h z (by simp)), tk_some (fun y hy => h y (by simp [hy]))]
    rfl
noncomputable def getA (L : LT) (k : KT) : VT × Bool × LT := match tk L k with | some (v, r) => (v, true, (k, v) :: r) | none => (0, false, L)
noncomputable def dropA (L : LT) (k : KT) : Bool × LT := match tk L k with | some (_, r) => (true, r) | none => (false, L)
noncomputable def putA (cap : Nat) (L : LT) (k : KT) (v : VT) : KT × Bool × LT := match tk L k with
  | some (_, r) => (kz, false, (k, v) :: r)
  | none => if cap = 0 then (k, true, L) else if L.length = cap then (((L.getLast?.map Prod.fst).getD kz), true, (k, v) :: L.dropLast) else (kz, false, (k, v) :: L)
/-- A cache in memory, its blocks among S, that holds the things L. -/
def Cx (W : World) (S : Nat → Prop) (b N cap : Nat) (L : LT) : Prop :=
  ∃ bm g c nm n ks vs nw od M O, Ca W b bm g c nm n (cap : Int) ks vs nw od M ∧ Lo n ks nw od M O ∧ L = O.map (fun q => (ks q, vs q)) ∧ S b ∧ S bm ∧ S g ∧ nm ≤ N ∧ O.length ≤ cap ∧ cap ≤ 1024
theorem Cx.mono {W : World} {S S' : Nat → Prop} {b N N' cap : Nat} {L : LT} (h : Cx W S b N cap L) (hS : ∀ k, k < W.heap.size → S k → S' k) (hN : N ≤ N') : Cx W S' b N' cap L := by
  obtain ⟨bm, g, c, nm, n, ks, vs, nw, od, M, O, h1, h2, h3, h4, h5, h6, h7, h8⟩ := h
  exact ⟨bm, g, c, nm, n, ks, vs, nw, od, M, O, h1, h2, h3, hS _ (heap_lt h1.blk) h4, hS _ h1.mp.lt h5, hS _ h1.row.lt h6, by omega, h8⟩
theorem Cx.fr {W W' : World} {S T : Nat → Prop} {b N cap : Nat} {L : LT} (h : Cx W S b N cap L) (f : Fr T W W') (hS : ∀ k, k < W.heap.size → S k → ¬ T k) : Cx W' S b N cap L := by
  obtain ⟨bm, g, c, nm, n, ks, vs, nw, od, M, O, h1, h2, h3, h4, h5, h6, h7, h8⟩ := h
  exact ⟨bm, g, c, nm, n, ks, vs, nw, od, M, O, h1.fr f (hS _ (heap_lt h1.blk) h4) (hS _ h1.mp.lt h5) (hS _ h1.row.lt h6), h2, h3, h4, h5, h6, h7, h8⟩
theorem Cx.nw {W W' : World} {S : Nat → Prop} {b N cap : Nat} {L : LT} (h : Cx W S b N cap L) (f : Nw W W') : Cx W' S b N cap L := h.fr f (fun _ _ _ e => e)
theorem Cx.len {W : World} {S : Nat → Prop} {b N cap : Nat} {L : LT} (h : Cx W S b N cap L) : L.length ≤ cap ∧ cap ≤ 1024 := by
  obtain ⟨bm, g, c, nm, n, ks, vs, nw, od, M, O, h1, h2, h3, h4, h5, h6, h7, h8⟩ := h
  subst h3
  simpa using h8
theorem Cx.blk {W : World} {S : Nat → Prop} {b N cap : Nat} {L : LT} (h : Cx W S b N cap L) : S b ∧ b < W.heap.size := by
  obtain ⟨bm, g, c, nm, n, ks, vs, nw, od, M, O, h1, h2, h3, h4, h5, h6, h7, h8⟩ := h
  exact ⟨h4, heap_lt h1.blk⟩
theorem Cx.key {W : World} {S : Nat → Prop} {b N cap : Nat} {L : LT} (h : Cx W S b N cap L) : (∀ z ∈ L, kok z.1) ∧ (L.map Prod.fst).Nodup := by
  obtain ⟨bm, g, c, nm, n, ks, vs, nw, od, M, O, h1, h2, h3, h4, h5, h6, h7, h8⟩ := h
  subst h3
  constructor
  · intro z hz
    obtain ⟨q, hq, rfl⟩ := List.mem_map.1 hz
    exact h2.key q hq
  · rw [List.map_map, List.nodup_iff_pairwise_ne, List.pairwise_map]
    have hd := h2.ring.2
    rw [List.nodup_cons, List.nodup_iff_pairwise_ne] at hd
    refine hd.2.imp_of_mem (fun {x y} hx hy hne e => hne ?_)
    have a1 := (h2.map (ks x) x).2 ⟨hx, rfl⟩
    have a2 := (h2.map (ks x) y).2 ⟨hy, e.symm⟩
    rw [a1] at a2
    exact Option.some.inj a2
/-- Which thing a key has. -/
theorem lo_some {n : Nat} {ks : Nat → KT} {nw od : Nat → Nat} {M : Pm} {O : List Nat} (h : Lo n ks nw od M O) (vs : Nat → VT) {k : KT} {p : Nat} (hM : M k = some p) :
    ∃ A B, O = A ++ p :: B ∧ tk (O.map (fun q => (ks q, vs q))) k = some (vs p, (A ++ B).map (fun q => (ks q, vs q))) ∧ ks p = k := by
  obtain ⟨hp, hk⟩ := (h.map k p).1 hM
  obtain ⟨A, B, rfl⟩ := List.append_of_mem hp
  refine ⟨A, B, rfl, ?_, hk⟩
  rw [List.map_append, List.map_cons, List.map_append, hk]
  refine tk_some (fun z hz e => ?_)
  obtain ⟨q, hq, rfl⟩ := List.mem_map.1 hz
  have := (h.map k q).2 ⟨by simp [hq], e⟩
  rw [hM] at this
  have e2 : p = q := Option.some.inj this
  subst e2
  have hd := h.ring.2
  simp only [List.nodup_cons, List.nodup_append] at hd
  exact hd.2.2.2 p hq p (by simp) rfl
theorem lo_none {n : Nat} {ks : Nat → KT} {nw od : Nat → Nat} {M : Pm} {O : List Nat} (h : Lo n ks nw od M O) (vs : Nat → VT) {k : KT} (hM : M k = none) : tk (O.map (fun q => (ks q, vs q))) k = none := by
  refine tk_none (fun z hz e => ?_)
  obtain ⟨q, hq, rfl⟩ := List.mem_map.1 hz
  have := (h.map k q).2 ⟨hq, e⟩
  rw [hM] at this
  cases this
theorem Lo.renew {n : Nat} {ks : Nat → KT} {nw od nw' od' : Nat → Nat} {M : Pm} {A B : List Nat} {p : Nat} (h : Lo n ks nw od M (A ++ p :: B)) (hR : Ring nw' od' (p :: (A ++ B))) : Lo n ks nw' od' M (p :: (A ++ B)) := by
  have hm : ∀ x, x ∈ p :: (A ++ B) ↔ x ∈ A ++ p :: B := fun x => by simp; grind
  refine ⟨hR, fun x => (hm x).trans (h.mem x), by have := h.len; simp at this ⊢; omega, fun k q => by rw [h.map, hm], fun q hq => h.key q ((hm q).1 hq)⟩
/-- remove, of whichever place. -/
theorem remove_any {w : World} {b bm g c nm n : Nat} {cap : Int} {ks : Nat → KT} {vs : Nat → VT} {nw od : Nat → Nat} {M : Pm} {A B : List Nat} {p : Nat} (h : Ca w b bm g c nm (n + 1) cap ks vs nw od M) (hL : Lo (n + 1) ks nw od M (A ++ p :: B)) (hn : n + 1 ≤ 2000) (hm : nm < 4611686018427387904) :
    Calls Tryz.prog 27 #[.pointer (some ⟨b, 0, none⟩), .int .i64 (p : Int)] w fun e w' => e = .returned (.tuple #[]) ∧ ∃ ks' vs' nw' od' M' O', Ca w' b bm g c (nm + 1) n cap ks' vs' nw' od' M' ∧ Lo n ks' nw' od' M' O' ∧ O'.map (fun q => (ks' q, vs' q)) = (A ++ B).map (fun q => (ks q, vs q)) ∧ M' (ks p) = none ∧ Fr (fun k => k = b ∨ k = g ∨ k = bm) w w' := by
  have hpm := (hL.mem p).1 (by simp)
  obtain ⟨i1, i2⟩ := ring_nb hL.ring (p := p) (.inr (by simp))
  have hlt : ∀ x, x = 0 ∨ x ∈ A ++ p :: B → x < n + 1 := fun x hx => hx.elim (fun e => by omega) (fun e => ((hL.mem x).1 e).2)
  have h1 := hlt _ i1
  have h2 := hlt _ i2
  have hkp := hL.key p (by simp)
  by_cases hpn : p = n
  · subst hpn
    refine (remove_last h hn (by omega) rfl rfl h1 h2 hkp).mono ?_
    rintro e w' ⟨rfl, C, F⟩
    exact ⟨rfl, ks, vs, _, _, _, A ++ B, ⟨C.blk, C.row, C.mp.more (by omega), C.n1, C.n2, C.n3⟩, hL.cut, rfl, delP_same _ _, F⟩
  · have hnin : n ∈ A ++ p :: B := (hL.mem n).2 ⟨by omega, by omega⟩
    have hnAB : n ∈ A ++ B := by simp at hnin ⊢; rcases hnin with e | e | e; exact .inl e; exact absurd e.symm hpn; exact .inr e
    obtain ⟨A', B', hAB⟩ := List.append_of_mem hnAB
    have R := ring_unlink hL.ring
    have R' := R
    rw [hAB] at R'
    obtain ⟨j1, j2⟩ := ring_nb R' (p := n) (.inr (by simp))
    have hlt2 : ∀ x, x = 0 ∨ x ∈ A' ++ n :: B' → x < n + 1 := fun x hx => hlt x (hx.imp id (fun e => by rw [← hAB] at e; simp at e ⊢; rcases e with e | e <;> simp [e]))
    have hpAB : p ∉ A ++ B := by have hd := hL.ring.2; simp only [List.nodup_cons, List.mem_append, List.mem_cons, List.nodup_append] at hd ⊢; grind
    have hne : ∀ q, q ∈ A' ∨ q ∈ B' → q ≠ p := fun q hq e => hpAB (by rw [hAB, ← e]; simp; rcases hq with c | c <;> simp [c])
    refine (remove_move h hn (by omega) rfl rfl h1 h2 hkp (hL.key n hnin) rfl rfl (hlt2 _ j1) (hlt2 _ j2) hm).mono ?_
    rintro e w' ⟨rfl, C, F⟩
    refine ⟨rfl, _, _, _, _, _, A' ++ p :: B', C, hL.move hpn hAB rfl rfl, ?_, ?_, F⟩
    · rw [hAB]
      simp only [List.map_append, List.map_cons, up_same]
      congr 1
      · exact List.map_congr_left (fun q hq => by rw [up_ne _ _ (hne q (.inl hq)), up_ne _ _ (hne q (.inl hq))])
      · congr 1
        exact List.map_congr_left (fun q hq => by rw [up_ne _ _ (hne q (.inr hq)), up_ne _ _ (hne q (.inr hq))])
    · have : ks p ≠ ks n := fun e => by
        have a1 := (hL.map (ks p) p).2 ⟨by simp, rfl⟩
        have a2 := (hL.map (ks p) n).2 ⟨hnin, e.symm⟩
        rw [a1] at a2
        exact hpn (Option.some.inj a2)
      rw [putP_other _ _ this, delP_same]
theorem made_one : madeCells #[kv kz, vv 0, .int .i64 0, .int .i64 0] 4 = #[kv kz, vv 0, .int .i64 0, .int .i64 0] := by kernel_rfl
theorem make_one (w : World) : (Instr.makeSlice 43 (.int .i64 1) (.int .i64 1)).run Tryz.prog w = .ok (.slice (some ⟨w.heap.size, 0, none⟩) 1 1) (w.alloc (.cells #[kv kz, vv 0, .int .i64 0, .int .i64 0] 82)) := by
  obtain ⟨i0, hi0, hie⟩ := Option.map_eq_some_iff.1 infoT
  simp only [Prod.mk.injEq] at hie
  obtain ⟨hz0, hz1, hz2⟩ := hie
  rw [run_make w 43 82 i0 _ Tryz.underlying43 hi0 hz0 .i64 .i64 1 1 (by omega) (by omega) (by rw [hz2]; omega) (by omega), hz1]
  rw [show (1 : Int).toNat * 4 = 4 from rfl, show (Value.agg #[kv kz, vv 0, .int .i64 0, .int .i64 0]).cells = #[kv kz, vv 0, .int .i64 0, .int .i64 0] from rfl, made_one]
  rfl
set_option maxRecDepth 100000 in
theorem new_any {w : World} (cap : Nat) (hc : cap ≤ 1024) :
    Calls Tryz.prog 4 #[.int .i64 (cap : Int)] w fun e w' => ∃ b, e = .returned (.tuple #[.pointer (some ⟨b, 0, none⟩), .nilIface]) ∧ Cx w' (fun k => w.heap.size ≤ k) b 0 cap [] ∧ Nw w w' := by
  have hmm := @run_makeMap Tryz.prog
  have hmk := make_one w
  have hc0 : ¬ (cap : Int) < 0 := by omega
  have hc1 : ¬ (1024 : Int) < cap := by omega
  go_enter Tryz.func4, Tryz.ntmps4
  go_wp2
  go_ret2
  obtain ⟨w1, hw1⟩ : ∃ w1, w1 = w.alloc (.cells #[kv kz, vv 0, .int .i64 0, .int .i64 0] 82) := ⟨_, rfl⟩
  have hs1 : w1.heap.size = w.heap.size + 1 := by rw [hw1]; simp
  have n1 : Nw w w1 := by rw [hw1]; exact (Fr.refl _ w).alloc _
  have b1 : w1.heap[w.heap.size]? = some (.cells #[kv kz, vv 0, .int .i64 0, .int .i64 0] 82) := by rw [hw1]; exact heap_new _ _
  have n2 : Nw w1 (w1.alloc (.map #[] 0)) := (Fr.refl _ _).alloc _
  have m2 := Mp.made w1
  have n3 : Nw (w1.alloc (.map #[] 0)) ((w1.alloc (.map #[] 0)).alloc (cac (cap : Int) (.slice (some ⟨w.heap.size, 0, none⟩) 1 1) (.map (some (w.heap.size + 1))))) := (Fr.refl _ _).alloc _
  refine ⟨w.heap.size + 1 + 1, rfl, ⟨w.heap.size + 1, w.heap.size, 1, 0, 1, fun _ => kz, fun _ => 0, fun _ => 0, fun _ => 0, fun _ => none, [], ⟨?_, ?_, ?_, by omega, by omega, by omega⟩, ⟨⟨⟨rfl, rfl, trivial⟩, by simp⟩, fun x => by simp; omega, rfl, fun k q => by simp, fun q hq => by simp at hq⟩, rfl, by omega, by omega, by omega, by omega, by simp, by omega⟩, ?_⟩
  · rw [← hw1]
    have := heap_new (w1.alloc (.map #[] 0)) (cac (cap : Int) (.slice (some ⟨w.heap.size, 0, none⟩) 1 1) (.map (some (w.heap.size + 1))))
    rw [World.size_alloc, hs1] at this
    exact this
  · rw [← hw1]
    refine ⟨_, (n3.block _ (by simp; omega) (fun e => e)).trans ((n2.block _ (by omega) (fun e => e)).trans b1), by omega, by unfold maxLen; omega, rfl, fun i hi => ?_⟩
    obtain rfl : i = 0 := by omega
    exact ⟨rfl, rfl, rfl, rfl⟩
  · rw [← hw1]
    rw [hs1] at m2
    exact m2.fr n3 (fun e => e)
  · rw [← hw1]
    exact n1.tr (n2.tr n3)
theorem new_no {w : World} (cap : Int) (hc : cap < 0 ∨ 1024 < cap) {B : Nat} {a : Nat → Addr} (hS : Sent B w a) :
    Calls Tryz.prog 4 #[.int .i64 cap] w fun e w' => e = .returned (.tuple #[.pointer none, sen (a 1)]) ∧ Nw w w' := by
  have e1 := hS.c1
  clear hS
  by_cases h0 : cap < 0
  · go_enter Tryz.func4, Tryz.ntmps4
    go_wp2_with fail
    go_quiet (fail)
    go_wp2
    go_ret2
    exact ⟨rfl, (Fr.refl _ _).drewN _⟩
  · have h1 : 1024 < cap := by omega
    go_enter Tryz.func4, Tryz.ntmps4
    go_wp2_with fail
    go_quiet (fail)
    go_wp2
    go_ret2
    exact ⟨rfl, (Fr.refl _ _).drewN _⟩
theorem len_no {w : World} {p : Value} (h : NoC w p) : Calls Tryz.prog 18 #[p] w fun e w' => e = .returned (.int .i64 0) ∧ w' = w := by
  have q := there_no h
  clear h
  go_enter Tryz.func18, Tryz.ntmps18
  go_wp2_with fail
  refine q.mono ?_
  rintro e w1 ⟨rfl, rfl⟩
  go_wp2
  go_ret
  exact ⟨rfl, rfl⟩
theorem len_blk {w : World} {b bm g c n : Nat} {cap : Int} (h : w.heap[b]? = some (cac cap (.slice (some ⟨g, 0, none⟩) (n + 1 : Nat) c) (.map (some bm)))) (hn : n ≤ 2000) :
    Calls Tryz.prog 18 #[.pointer (some ⟨b, 0, none⟩)] w fun e w' => e = .returned (.int .i64 (n : Int)) ∧ w' = w := by
  have q := there_any h
  obtain ⟨_, c1, _⟩ := cac_cs h
  have lb := heap_lt h
  clear h
  go_enter Tryz.func18, Tryz.ntmps18
  go_wp2_with fail
  refine q.mono ?_
  rintro e w1 ⟨rfl, rfl⟩
  go_wp2
  go_ret
  exact ⟨by simp, rfl⟩
theorem len_any {W : World} {S : Nat → Prop} {b N cap : Nat} {L : LT} (h : Cx W S b N cap L) : Calls Tryz.prog 18 #[.pointer (some ⟨b, 0, none⟩)] W fun e w' => e = .returned (.int .i64 (L.length : Int)) ∧ w' = W := by
  obtain ⟨bm, g, c, nm, n, ks, vs, nw, od, M, O, h1, h2, h3, h4, h5, h6, h7, h8, h9⟩ := h
  have e1 : O.length = L.length := by rw [h3]; simp
  have := h2.len
  rw [e1] at this h8
  subst this
  exact len_blk h1.blk (by omega)
theorem get_no {w : World} {p : Value} (h : NoC w p) (k : KT) : Calls Tryz.prog 9 #[p, kv k] w fun e w' => e = .returned (.tuple #[vv 0, .bool false]) ∧ w' = w := by
  have q := find_no h k
  clear h
  go_enter Tryz.func9, Tryz.ntmps9
  go_wp2_with fail
  refine q.mono ?_
  rintro e w1 ⟨rfl, rfl⟩
  go_wp2
  go_ret2
  exact ⟨rfl, rfl⟩
theorem drop_no {w : World} {p : Value} (h : NoC w p) (k : KT) : Calls Tryz.prog 13 #[p, kv k] w fun e w' => e = .returned (.bool false) ∧ w' = w := by
  have q := find_no h k
  clear h
  go_enter Tryz.func13, Tryz.ntmps13
  go_wp2_with fail
  refine q.mono ?_
  rintro e w1 ⟨rfl, rfl⟩
  go_wp2
  go_ret
  exact ⟨rfl, rfl⟩
theorem put_no {w : World} {p : Value} (h : NoC w p) (k : KT) (v : VT) : Calls Tryz.prog 11 #[p, kv k, vv v] w fun e w' => e = .returned (.tuple #[kv kz, .bool false]) ∧ w' = w := by
  have q := there_no h
  clear h
  go_enter Tryz.func11, Tryz.ntmps11
  go_wp2_with fail
  refine q.mono ?_
  rintro e w1 ⟨rfl, rfl⟩
  go_wp2
  go_ret2
  exact ⟨rfl, rfl⟩
theorem keys_no {w : World} {p : Value} (h : NoC w p) : Calls Tryz.prog 16 #[p] w fun e w' => e = .returned (.slice none 0 0) ∧ w' = w := by
  have q := there_no h
  clear h
  go_enter Tryz.func16, Tryz.ntmps16
  go_wp2_with fail
  refine q.mono ?_
  rintro e w1 ⟨rfl, rfl⟩
  go_wp2
  go_ret
  exact ⟨rfl, rfl⟩
set_option maxRecDepth 100000 in
theorem get_any {W : World} {S : Nat → Prop} {b N cap : Nat} {L : LT} (h : Cx W S b N cap L) (k : KT) (hk : kok k) :
    Calls Tryz.prog 9 #[.pointer (some ⟨b, 0, none⟩), kv k] W fun e w' => e = .returned (.tuple #[vv (getA L k).1, .bool (getA L k).2.1]) ∧ Cx w' S b N cap (getA L k).2.2 ∧ Fr S W w' := by
  have HX : Hid (Cx W S b N cap L) := h
  obtain ⟨bm, g, c, nm, n, ks, vs, nw, od, M, O, h1, h2, h3, h4, h5, h6, h7, h8, h9⟩ := h
  have q := find_any h1.blk h1.mp k hk
  cases hM : M k with
  | none =>
    have hg : getA L k = (0, false, L) := by rw [getA, h3, lo_none h2 vs hM]
    rw [hM] at q
    simp only [Option.getD_none, Option.isSome_none] at q
    rw [hg]
    clear h1 h2 h3 hg hM hk
    go_enter Tryz.func9, Tryz.ntmps9
    go_wp2_with fail
    refine q.mono ?_
    rintro e w1 ⟨rfl, rfl⟩
    go_wp2
    go_ret2
    exact ⟨rfl, HX.out, Fr.refl _ _⟩
  | some p =>
    obtain ⟨A, B, hO, ht, hkp⟩ := lo_some h2 vs hM
    have hg : getA L k = (vs p, true, (k, vs p) :: (A ++ B).map (fun q => (ks q, vs q))) := by rw [getA, h3, ht]
    rw [hM] at q
    simp only [Option.getD_some, Option.isSome_some] at q
    rw [hg]
    subst hO
    have hlt : ∀ x ∈ A ++ p :: B, x < n := fun x hx => ((h2.mem x).1 hx).2
    have hn : n ≤ 2000 := by have := h2.len; omega
    have hpn : p < n := hlt p (by simp)
    have q2 := renew_any h1 hn h2.ring hlt
    have HL : Hid (Lo n ks nw od M (A ++ p :: B)) := h2
    have HC : Hid ((A ++ p :: B).length ≤ cap ∧ cap ≤ 1024 ∧ nm ≤ N ∧ S b ∧ S bm ∧ S g ∧ ks p = k) := ⟨h8, h9, h7, h4, h5, h6, hkp⟩
    clear h1 h2 h3 hg hM hk ht hkp hlt h8 h9 h7
    go_enter Tryz.func9, Tryz.ntmps9
    go_wp2_with fail
    refine q.mono ?_
    rintro e w1 ⟨rfl, rfl⟩
    go_wp2_with fail
    refine q2.mono ?_
    rintro e w2 ⟨rfl, nw', od', C2, R2, F2⟩
    obtain ⟨_, c1, _⟩ := cac_cs C2.blk
    have lb := heap_lt C2.blk
    have lg := C2.row.lt
    obtain ⟨_, r1, _, _⟩ := C2.row.cell hpn
    have HF : Hid (Cx w2 S b N cap ((k, vs p) :: (A ++ B).map (fun q => (ks q, vs q))) ∧ Fr S w1 w2) := by
      obtain ⟨d1, d2, d3, d4, d5, d6, d7⟩ := HC.out
      refine ⟨⟨bm, g, c, nm, n, ks, vs, nw', od', M, p :: (A ++ B), C2, HL.out.renew R2, by rw [List.map_cons, d7], d4, d5, d6, d3, ?_, d2⟩, F2.mono (fun j hj e => e ▸ d6)⟩
      simp at d1 ⊢
      omega
    clear q q2 C2 R2 F2
    go_wp2
    go_ret2
    exact ⟨rfl, HF.out⟩
set_option maxRecDepth 100000 in
theorem drop_any {W : World} {S : Nat → Prop} {b N cap : Nat} {L : LT} (h : Cx W S b N cap L) (k : KT) (hk : kok k) (hN : N < 4611686018427387904) :
    Calls Tryz.prog 13 #[.pointer (some ⟨b, 0, none⟩), kv k] W fun e w' => e = .returned (.bool (dropA L k).1) ∧ Cx w' S b (N + 1) cap (dropA L k).2 ∧ Fr S W w' := by
  have HX : Hid (Cx W S b N cap L) := h
  obtain ⟨bm, g, c, nm, n, ks, vs, nw, od, M, O, h1, h2, h3, h4, h5, h6, h7, h8, h9⟩ := h
  have q := find_any h1.blk h1.mp k hk
  cases hM : M k with
  | none =>
    have hg : dropA L k = (false, L) := by rw [dropA, h3, lo_none h2 vs hM]
    rw [hM] at q
    simp only [Option.getD_none, Option.isSome_none] at q
    rw [hg]
    clear h1 h2 h3 hg hM hk
    go_enter Tryz.func13, Tryz.ntmps13
    go_wp2_with fail
    refine q.mono ?_
    rintro e w1 ⟨rfl, rfl⟩
    go_wp2
    go_ret
    exact ⟨rfl, HX.out.mono (fun _ _ e => e) (by omega), Fr.refl _ _⟩
  | some p =>
    obtain ⟨A, B, hO, ht, hkp⟩ := lo_some h2 vs hM
    have hg : dropA L k = (true, (A ++ B).map (fun q => (ks q, vs q))) := by rw [dropA, h3, ht]
    rw [hM] at q
    simp only [Option.getD_some, Option.isSome_some] at q
    rw [hg]
    subst hO
    obtain ⟨m, rfl⟩ : ∃ m, n = m + 1 := ⟨n - 1, by have := h2.len; omega⟩
    have hn : m + 1 ≤ 2000 := by have := h2.len; omega
    have q2 := remove_any h1 h2 hn (by omega)
    have HC : Hid ((A ++ p :: B).length ≤ cap ∧ cap ≤ 1024 ∧ nm ≤ N ∧ S b ∧ S bm ∧ S g) := ⟨h8, h9, h7, h4, h5, h6⟩
    clear h1 h2 h3 hg hM hk ht hkp h8 h9 h7
    go_enter Tryz.func13, Tryz.ntmps13
    go_wp2_with fail
    refine q.mono ?_
    rintro e w1 ⟨rfl, rfl⟩
    go_wp2_with fail
    refine q2.mono ?_
    rintro e w2 ⟨rfl, ks', vs', nw', od', M', O', C2, L2, e2, _, F2⟩
    have HF : Hid (Cx w2 S b (N + 1) cap ((A ++ B).map (fun q => (ks q, vs q))) ∧ Fr S w1 w2) := by
      obtain ⟨d1, d2, d3, d4, d5, d6⟩ := HC.out
      have hl := congrArg List.length e2
      refine ⟨⟨bm, g, c, nm + 1, m, ks', vs', nw', od', M', O', C2, L2, e2.symm, d4, d5, d6, by omega, ?_, d2⟩, F2.mono (fun j hj e => by rcases e with e | e | e; exact e ▸ d4; exact e ▸ d6; exact e ▸ d5)⟩
      simp at d1 hl ⊢
      omega
    clear q q2 C2 L2 F2 e2
    go_wp2
    go_ret
    exact ⟨rfl, HF.out⟩
end Go.Proofs.YtgdjoaiahigjpaaGreatDoor.CI
