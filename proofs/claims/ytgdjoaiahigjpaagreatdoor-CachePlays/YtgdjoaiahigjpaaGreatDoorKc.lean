/- cache: there, find, unlink, lead, renew. -/
import Derived.Test.YtgdjoaiahigjpaaGreatDoorKb
namespace Go.Proofs.YtgdjoaiahigjpaaGreatDoor.CI
open Go.RowKit Go.Maps Go.WideMaps Go.Proofs.YtgdjoaiahigjpaaGreatDoor
set_option linter.unusedVariables false
set_option linter.unusedSimpArgs false
theorem there_nil (w : World) : Calls Tryz.prog 26 #[.pointer none] w fun e w' => e = .returned (.bool false) ∧ w' = w := by
  go_enter Tryz.func26, Tryz.ntmps26
  go_wp2
  go_ret
  exact ⟨rfl, rfl⟩
theorem there_zero {w : World} {b : Nat} {cap : Int} {t : Value} (h : w.heap[b]? = some (cac cap t (.map none))) :
    Calls Tryz.prog 26 #[.pointer (some ⟨b, 0, none⟩)] w fun e w' => e = .returned (.bool false) ∧ w' = w := by
  obtain ⟨_, _, c0⟩ := cac_cs h
  have lb := heap_lt h
  clear h
  have m0 := binm_none
  have m1 := binm_some
  go_enter Tryz.func26, Tryz.ntmps26
  go_wp2
  go_ret
  exact ⟨rfl, rfl⟩
theorem there_any {w : World} {b bm : Nat} {cap : Int} {t : Value} (h : w.heap[b]? = some (cac cap t (.map (some bm)))) :
    Calls Tryz.prog 26 #[.pointer (some ⟨b, 0, none⟩)] w fun e w' => e = .returned (.bool true) ∧ w' = w := by
  obtain ⟨_, _, c0⟩ := cac_cs h
  have lb := heap_lt h
  clear h
  have m0 := binm_none
  have m1 := binm_some
  go_enter Tryz.func26, Tryz.ntmps26
  go_wp2
  go_ret
  exact ⟨rfl, rfl⟩
/-- A cache that is not there, or that no call made. -/
def NoC (w : World) (p : Value) : Prop := p = .pointer none ∨ ∃ b cap t, p = .pointer (some ⟨b, 0, none⟩) ∧ w.heap[b]? = some (cac cap t (.map none))
theorem NoC.nw {w w' : World} {p : Value} (h : NoC w p) (n : Nw w w') : NoC w' p := by
  rcases h with h | ⟨b, cap, t, h, hb⟩
  · exact .inl h
  · exact .inr ⟨b, cap, t, h, (n.block _ (heap_lt hb) (fun f => f)).trans hb⟩
theorem there_no {w : World} {p : Value} (h : NoC w p) : Calls Tryz.prog 26 #[p] w fun e w' => e = .returned (.bool false) ∧ w' = w := by
  rcases h with rfl | ⟨b, cap, t, rfl, hb⟩
  · exact there_nil w
  · exact there_zero hb
theorem find_no {w : World} {p : Value} (h : NoC w p) (k : KT) : Calls Tryz.prog 22 #[p, kv k] w fun e w' => e = .returned (.tuple #[.int .i64 0, .bool false]) ∧ w' = w := by
  have q := there_no h
  clear h
  go_enter Tryz.func22, Tryz.ntmps22
  go_wp2_with fail
  refine q.mono ?_
  rintro e w1 ⟨rfl, rfl⟩
  go_wp2
  go_ret2
  exact ⟨rfl, rfl⟩
theorem find_any {w : World} {b bm nm : Nat} {cap : Int} {t : Value} {M : Pm} (h : w.heap[b]? = some (cac cap t (.map (some bm)))) (hm : Mp w bm nm M) (k : KT) (hk : kok k) :
    Calls Tryz.prog 22 #[.pointer (some ⟨b, 0, none⟩), kv k] w fun e w' => e = .returned (.tuple #[.int .i64 (((M k).getD 0 : Nat) : Int), .bool (M k).isSome]) ∧ w' = w := by
  have q := there_any h
  have hlk := hm.look k hk
  obtain ⟨_, _, c0⟩ := cac_cs h
  have lb := heap_lt h
  generalize (M k).isSome = ok at hlk ⊢
  generalize (M k).getD 0 = p at hlk ⊢
  clear h hm hk
  go_enter Tryz.func22, Tryz.ntmps22
  go_wp2_with fail
  refine q.mono ?_
  rintro e w1 ⟨rfl, rfl⟩
  go_wp2
  go_ret2
  exact ⟨rfl, rfl⟩
set_option maxRecDepth 100000 in
set_option maxHeartbeats 1000000 in
theorem unlink_any {w : World} {b bm g c nm n : Nat} {cap : Int} {ks : Nat → KT} {vs : Nat → VT} {nw od : Nat → Nat} {M : Pm} (h : Ca w b bm g c nm n cap ks vs nw od M) (hn : n ≤ 2000) {p x y : Nat} (hp : p < n) (hx : nw p = x) (hy : od p = y) (h1 : x < n) (h2 : y < n) :
    Calls Tryz.prog 80 #[.pointer (some ⟨b, 0, none⟩), .int .i64 (p : Int)] w fun e w' => e = .returned (.tuple #[]) ∧ Ca w' b bm g c nm n cap ks vs (up nw y x) (up od x y) M ∧ Fr (fun k => k = g) w w' := by
  obtain ⟨_, c1, _⟩ := cac_cs h.blk
  have lb := heap_lt h.blk
  have lg := h.row.lt
  obtain ⟨_, _, r2, r3⟩ := h.row.cell hp
  obtain ⟨_, _, _, x3⟩ := h.row.cell h1
  obtain ⟨_, _, y2, _⟩ := h.row.cell h2
  have H : Hid (Ca w b bm g c nm n cap ks vs nw od M) := h
  have hgb : ¬ g = b := h.n1
  have fz : ∀ o, w.frozen? ⟨g, o, none⟩ = false := fun o => h.row.frozen o
  rw [hx] at r2
  rw [hy] at r3
  clear h hx hy
  go_enter Tryz.func80, Tryz.ntmps80
  go_wp2_with fail
  go_quiet (fail)
  go_wp2
  go_end0
  have hd := H.out.nw ((Fr.refl (fun _ => False) w).drewN nq)
  have hd1 := hd.turn (frS _) (hd.row.setO h1 y)
  have hd2 := hd1.turn (frS _) (hd1.row.setN h2 x)
  exact ⟨rfl, hd2, (((Fr.refl _ w).drewN nq).trans (frS _) (fun _ _ e => e)).trans (frS _) (fun _ _ e => e)⟩
set_option maxRecDepth 100000 in
set_option maxHeartbeats 1000000 in
theorem lead_any {w : World} {b bm g c nm n : Nat} {cap : Int} {ks : Nat → KT} {vs : Nat → VT} {nw od : Nat → Nat} {M : Pm} (h : Ca w b bm g c nm n cap ks vs nw od M) (hn : n ≤ 2000) {p y : Nat} (hp : p < n) (hp0 : p ≠ 0) (hpy : p ≠ y) (hy : od 0 = y) (h2 : y < n) :
    Calls Tryz.prog 81 #[.pointer (some ⟨b, 0, none⟩), .int .i64 (p : Int)] w fun e w' => e = .returned (.tuple #[]) ∧ Ca w' b bm g c nm n cap ks vs (up (up nw p 0) y p) (up (up od p y) 0 p) M ∧ Fr (fun k => k = g) w w' := by
  obtain ⟨_, c1, _⟩ := cac_cs h.blk
  have lb := heap_lt h.blk
  have lg := h.row.lt
  obtain ⟨_, _, r2, r3⟩ := h.row.cell hp
  obtain ⟨_, _, _, z3⟩ := h.row.cell (i := 0) (by omega)
  have hq0 : ¬ p = 0 := hp0
  have hq1 : ¬ p = y := hpy
  have hq2 : ¬ y = p := fun e => hpy e.symm
  have hn0 : 0 < n := by omega
  obtain ⟨_, _, y2, _⟩ := h.row.cell h2
  have H : Hid (Ca w b bm g c nm n cap ks vs nw od M) := h
  have hgb : ¬ g = b := h.n1
  have fz : ∀ o, w.frozen? ⟨g, o, none⟩ = false := fun o => h.row.frozen o
  rw [hy] at z3
  simp only [Nat.zero_mul, Nat.zero_add] at z3
  clear h hy
  go_enter Tryz.func81, Tryz.ntmps81
  go_wp2_with fail
  go_region
  all_goals
    go_wp2
    go_end0
    have hd := H.out
    first
    | (have hd1 := hd.turn (frS _) (hd.row.setN0 hp)
       have hd2 := hd1.turn (frS _) (hd1.row.setO hp y)
       have hd3 := hd2.turn (frS _) (hd2.row.setN h2 p)
       have hd4 := hd3.turn (frS _) (hd3.row.setO0 hn0 p)
       exact ⟨rfl, hd4.nw (Fr.refl _ _).drew, (((((Fr.refl _ w).trans (frS _) (fun _ _ e => e)).trans (frS _) (fun _ _ e => e)).trans (frS _) (fun _ _ e => e)).trans (frS _) (fun _ _ e => e)).drew⟩)
    | (have hd1 := hd.turn (frS _) (hd.row.setO hp y)
       have hd2 := hd1.turn (frS _) (hd1.row.setN0 hp)
       have hd3 := hd2.turn (frS _) (hd2.row.setN h2 p)
       have hd4 := hd3.turn (frS _) (hd3.row.setO0 hn0 p)
       exact ⟨rfl, hd4.nw (Fr.refl _ _).drew, (((((Fr.refl _ w).trans (frS _) (fun _ _ e => e)).trans (frS _) (fun _ _ e => e)).trans (frS _) (fun _ _ e => e)).trans (frS _) (fun _ _ e => e)).drew⟩)
set_option maxRecDepth 100000 in
set_option maxHeartbeats 1000000 in
theorem renew_any {w : World} {b bm g c nm n : Nat} {cap : Int} {ks : Nat → KT} {vs : Nat → VT} {nw od : Nat → Nat} {M : Pm} (h : Ca w b bm g c nm n cap ks vs nw od M) (hn : n ≤ 2000) {A B : List Nat} {p : Nat} (hR : Ring nw od (A ++ p :: B)) (hO : ∀ x ∈ A ++ p :: B, x < n) :
    Calls Tryz.prog 23 #[.pointer (some ⟨b, 0, none⟩), .int .i64 (p : Int)] w fun e w' => e = .returned (.tuple #[]) ∧ ∃ nw' od', Ca w' b bm g c nm n cap ks vs nw' od' M ∧ Ring nw' od' (p :: (A ++ B)) ∧ Fr (fun k => k = g) w w' := by
  have hp : p < n := hO p (by simp)
  have hp0 : p ≠ 0 := fun e => by have := hR.2; rw [e] at this; simp at this
  have hn0 : 0 < n := by omega
  obtain ⟨i1, i2⟩ := ring_nb hR (p := p) (.inr (by simp))
  have h1 : nw p < n := i1.elim (fun e => by omega) (hO _)
  have h2 : od p < n := i2.elim (fun e => by omega) (hO _)
  have q1 := unlink_any h hn hp rfl rfl h1 h2
  have R2 := ring_unlink hR
  have hpn : p ∉ A ++ B := by have := hR.2; simp only [List.nodup_cons, List.nodup_append, List.mem_append, List.mem_cons] at this ⊢; grind
  obtain ⟨_, j2⟩ := ring_nb R2 (p := 0) (.inl rfl)
  have R3 := ring_lead R2 hp0 hpn
  generalize up nw (od p) (nw p) = nw1 at q1 R2 R3 j2
  generalize up od (nw p) (od p) = od1 at q1 R2 R3 j2
  have h3 : od1 0 < n := j2.elim (fun e => by omega) (fun e => hO _ (by simp at e ⊢; rcases e with e | e <;> simp [e]))
  have h4 : p ≠ od1 0 := fun e => j2.elim (fun k => hp0 (e.trans k)) (fun k => hpn (e ▸ k))
  have HR : Hid (Ring (up (up nw1 p 0) (od1 0) p) (up (up od1 p (od1 0)) 0 p) (p :: (A ++ B))) := R3
  clear hR R2 R3 i1 i2 j2 h1 h2 h hO hpn
  go_enter Tryz.func23, Tryz.ntmps23
  go_wp2_with fail
  refine q1.mono ?_
  rintro e w1 ⟨rfl, C1, F1⟩
  have q2 := lead_any C1 hn hp hp0 h4 rfl h3
  have HF : Hid (Fr (fun k => k = g) w w1) := F1
  clear q1 C1 F1
  go_wp2_with fail
  refine q2.mono ?_
  rintro e w2 ⟨rfl, C2, F2⟩
  have HC : Hid (Ca w2 b bm g c nm n cap ks vs (up (up nw1 p 0) (od1 0) p) (up (up od1 p (od1 0)) 0 p) M) := C2
  have HF2 : Hid (Fr (fun k => k = g) w w2) := HF.out.trans F2 (fun _ _ e => e)
  clear q2 C2 F2
  go_wp2
  go_end0
  exact ⟨rfl, _, _, HC.out, HR.out, HF2.out⟩
end Go.Proofs.YtgdjoaiahigjpaaGreatDoor.CI
