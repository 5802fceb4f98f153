/- lives of the law's package: the chapter's first leaves. -/
import Derived.Test.YtdhlmpjoggnkkaaGreatDoorG1
namespace Go.Proofs.YtdhlmpjoggnkkaaGreatDoor
open Go.RowKit
set_option linter.unusedVariables false
set_option linter.unusedSimpArgs false

abbrev ta : ByteArray := ⟨#[97]⟩
abbrev tb : ByteArray := ⟨#[98]⟩
abbrev tc : ByteArray := ⟨#[99]⟩
theorem spl2 : spl 2 = 1 := spl_of (k := 0) (by decide) (by decide)
theorem spl3 : spl 3 = 2 := spl_of (k := 1) (by decide) (by decide)
theorem spl4 : spl 4 = 2 := spl_of (k := 1) (by decide) (by decide)
theorem spl5 : spl 5 = 4 := spl_of (k := 2) (by decide) (by decide)
theorem kp3 : kp [ta, tb, tc] = [ta, tb, tc] := by rfl
theorem pth02 : pth 0 0 2 = [(1, 2)] := by
  rw [pth_left (by decide) (by rw [show (2 : Nat) - 0 = 2 from rfl, spl2]; decide), show (2 : Nat) - 0 = 2 from rfl, spl2, pth_one (by decide)]; rfl
theorem pth03 : pth 0 0 3 = [(1, 2), (2, 3)] := by
  rw [pth_left (by decide) (by rw [show (3 : Nat) - 0 = 3 from rfl, spl3]; decide), show (3 : Nat) - 0 = 3 from rfl, spl3, show 0 + 2 = 2 from rfl, pth02]; rfl
theorem mth2 (x y : ByteArray) : mth [x, y] = Sh (1 :: (mth [x] ++ mth [y])) := by
  rw [mth_cut (by simp), show [x, y].length = 2 from rfl, spl2]; rfl
theorem mth3 (x y z : ByteArray) : mth [x, y, z] = Sh (1 :: (mth [x, y] ++ mth [z])) := by
  rw [mth_cut (by simp), show [x, y, z].length = 3 from rfl, spl3]; rfl
theorem row_err {w w' : World} {x : Addr} {e : Ending} (h : Errd w w' x e) : e = .returned (.tuple #[.slice none 0 0, sen x]) ∧ Nw w w' := h
set_option maxRecDepth 100000 in
set_option maxHeartbeats 4000000 in
theorem lives_any (w : World) (hL : Laid w) {B : Nat} {a : Nat → Addr} (hS : Sent B w a) :
    Calls Tryz.prog 18 #[] w fun e w' => e = .returned (.bool true) ∧ Nw w w' := by
  have HL : Hid (Laid w) := hL
  have HS : Hid (Sent B w a) := hS
  clear hL hS
  have q0 : Hid (∀ W, Nw w W → Calls Tryz.prog 95 #[.slice (some ⟨W.heap.size, 0, none⟩) 3 3] (W.alloc (.cells #[.string ta, .string tb, .string tc] 9)) fun e w' => ∃ b base v, e = .returned (.tuple #[.pointer (some ⟨b, 0, none⟩), .int .i64 3, .bool true]) ∧ Lg w' b base v [ta, tb, tc] ∧ Nw W w') := fun W hW => by
    have q := grown_any (some ⟨W.heap.size, 0, none⟩) 3 [ta, tb, tc] _ (strs3 W ta tb tc) (by intro x hx; simp only [List.mem_cons, List.not_mem_nil, or_false] at hx; rcases hx with rfl | rfl | rfl <;> decide) (by simp) (HS.out.fr (hW.alloc _) (fun _ _ f => f))
    rw [kp3] at q
    exact q.mono fun e w' ⟨b, base, v, h1, h2, h3, h4⟩ => ⟨b, base, v, h1, h2, Nw.tr (nwa W _) h4⟩
  go_enter Tryz.func18, Tryz.ntmps18
  go_wp2_with fail
  refine (q0.out _ (nwr w)).mono ?_
  rintro e w1 ⟨b, base, v, rfl, g1, n1⟩
  clear q0
  obtain ⟨la, hla⟩ : ∃ x, x = mth [ta] := ⟨_, rfl⟩
  obtain ⟨lb, hlb⟩ : ∃ x, x = mth [tb] := ⟨_, rfl⟩
  obtain ⟨lc, hlc⟩ : ∃ x, x = mth [tc] := ⟨_, rfl⟩
  obtain ⟨nab, hnab⟩ : ∃ x, x = Sh (1 :: (la ++ lb)) := ⟨_, rfl⟩
  obtain ⟨r3, hr3⟩ : ∃ x, x = Sh (1 :: (nab ++ lc)) := ⟨_, rfl⟩
  have la32 : la.length = 32 := by rw [hla]; exact mth_len _
  have lb32 : lb.length = 32 := by rw [hlb]; exact mth_len _
  have lc32 : lc.length = 32 := by rw [hlc]; exact mth_len _
  have nab32 : nab.length = 32 := by rw [hnab]; exact Sh_len _
  have r32 : r3.length = 32 := by rw [hr3]; exact Sh_len _
  have hroot : mth (sbl [ta, tb, tc] 0 3) = r3 := by rw [show sbl [ta, tb, tc] 0 3 = [ta, tb, tc] from rfl, mth3, mth2, hr3, hnab, hla, hlb, hlc]
  have q2 := Root_any g1 3 (by decide) (HL.out.nw n1) (HS.out.fr n1 (fun _ _ f => f))
  have ht : treeA [ta, tb, tc] a 0 3 = .tuple #[.agg (hbs r3), .nilIface] := by rw [treeA, if_pos (by decide), hroot]
  rw [ht] at q2
  have hrs : (hbs r3).size = 32 := by rw [hbs_size, r32]
  have G1 : Hid (Lg w1 b base v [ta, tb, tc]) := g1
  have HPth : Hid ((pth 0 0 3).map (hst [ta, tb, tc]) = [lb, lc]) := by rw [pth03, hlb, hlc]; exact rfl
  have N1 : Hid (Nw w w1) := n1
  have QLa : Hid (∀ W, Nw w W → Calls Tryz.prog 97 #[.string ta] W fun e w' => e = .returned (.agg (hbs la)) ∧ Nw W w') := fun W hW => by rw [hla, mth_one]; exact leaf_any ta W (HL.out.nw hW) (by decide)
  have QLb : Hid (∀ W, Nw w W → Calls Tryz.prog 97 #[.string tb] W fun e w' => e = .returned (.agg (hbs lb)) ∧ Nw W w') := fun W hW => by rw [hlb, mth_one]; exact leaf_any tb W (HL.out.nw hW) (by decide)
  have QLc : Hid (∀ W, Nw w W → Calls Tryz.prog 97 #[.string tc] W fun e w' => e = .returned (.agg (hbs lc)) ∧ Nw W w') := fun W hW => by rw [hlc, mth_one]; exact leaf_any tc W (HL.out.nw hW) (by decide)
  have QN1 : Hid (∀ W, Nw w W → Calls Tryz.prog 96 #[.agg (hbs la), .agg (hbs lb)] W fun e w' => e = .returned (.agg (hbs nab)) ∧ Nw W w') := fun W hW => by rw [hnab]; exact node_any la lb la32 lb32 W (HL.out.nw hW)
  have QN2 : Hid (∀ W, Nw w W → Calls Tryz.prog 96 #[.agg (hbs nab), .agg (hbs lc)] W fun e w' => e = .returned (.agg (hbs r3)) ∧ Nw W w') := fun W hW => by rw [hr3]; exact node_any nab lc nab32 lc32 W (HL.out.nw hW)
  have QI : Hid (∀ W, Nw w W → Calls Tryz.prog 39 #[sen (a 4), .int .i64 5] W fun e w' => e = .returned (.bool true) ∧ Nw W w') := fun W hW => by
    have hsb : sameB 5 none 5 (-1) = true := by decide
    have q := isE_any (HS.out.fr hW (fun _ _ f => f)) (show EV W a (sen (a 4)) 5 none from .inr (.inl ⟨4, by decide, rfl, rfl, rfl⟩)) 5
    rw [hsb] at q
    exact q
  have LB : Hid (lb.length = 32) := lb32
  have LC : Hid (lc.length = 32) := lc32
  have R3 : Hid (r3.length = 32) := r32
  clear hla hlb hlc hnab hr3 la32 lb32 lc32 nab32 r32 hroot ht g1 n1
  go_wp2_with fail
  refine q2.mono ?_
  rintro e w2 ⟨rfl, n2⟩
  have N2 : Hid (Nw w1 w2) := n2
  clear n2 q2
  go_wp2_with (refine wp_store_agg rfl (.tmp 4) (.tmp 25) 56 32 rfl Tryz.sizeOf56 w2.heap.size 0 rfl _ 56 (heap_new _ _) (hbs r3) rfl hrs (hbs_one _) (by decide) (hbs r3) (by simp) ?_; intro w3 j3 f3 z3; have N3 : Hid (Nw w1 w3) := (N2.out.alloc _).trans f3 (fun k hk q => by have := N2.out.size; omega); have J3 : Hid (w3.heap[w2.heap.size]? = some (.cells (hbs r3) 56 (0, 0))) := j3; clear j3 f3 z3)
  have q3 := Path_any (G1.out.nw N3.out) 0 3 (by decide) (by decide) (HL.out.nw (N1.out.tr N3.out)) (HS.out.fr (N1.out.tr N3.out) (fun _ _ f => f))
  simp only [if_pos (show (0 < 3) ∧ 3 ≤ [ta, tb, tc].length from by decide)] at q3
  refine q3.mono ?_
  rintro e w4 ⟨pv, rfl, o4, n4⟩
  clear q3
  have hlen : (pth 0 0 3).length = 2 := by rw [pth03]; rfl
  rw [HPth.out, hlen] at o4
  have H4 : Hss w4 pv [lb, lc] := Hss.of (by intro x hx; simp only [List.mem_cons, List.not_mem_nil, or_false] at hx; rcases hx with rfl | rfl; exact LB.out; exact LC.out) o4
  obtain ⟨pa, pc, rfl, hp⟩ := H4
  obtain ⟨g, off, rfl, hp0⟩ := hp 0 lb rfl
  obtain ⟨g', off', he, hp1⟩ := hp 1 lc rfl
  cases he
  have HP0 : Hid (∀ j, j < 32 → w4.cell? ⟨g, off + j, none⟩ = (hbs lb)[j]?) := fun j hj => by have := hp0 j hj; rwa [Nat.zero_mul, Nat.add_zero] at this
  have HP1 : Hid (∀ j, j < 32 → w4.cell? ⟨g, off + 32 + j, none⟩ = (hbs lc)[j]?) := hp1
  have J4 : Hid (w4.heap[w2.heap.size]? = some (.cells (hbs r3) 56 (0, 0))) := (n4.block _ (heap_lt J3.out) (fun f => f)).trans J3.out
  have N4 : Hid (Nw w1 w4) := N3.out.tr n4
  have G4 : Hid (Lg w4 b base v [ta, tb, tc]) := G1.out.nw N4.out
  clear hp hp0 hp1 o4 n4 J3 N3 N2 G1 hlen HPth
  have q5 := Path_any G4.out 3 3 (by decide) (by decide) (HL.out.nw (N1.out.tr N4.out)) (HS.out.fr (N1.out.tr N4.out) (fun _ _ f => f))
  simp only [if_neg (show ¬ ((3 < 3) ∧ 3 ≤ [ta, tb, tc].length) from by decide)] at q5
  obtain ⟨b3, hb3⟩ : ∃ b3, b3 = w2.heap.size := ⟨_, rfl⟩
  rw [← hb3] at J4 ⊢
  clear hb3
  rw [show [lb, lc].length = 2 from rfl]
  go_wp2_with fail
  refine q5.mono ?_
  rintro e w5 ⟨rfl, n5⟩
  clear q5
  have J5 : Hid (w5.heap[b3]? = some (.cells (hbs r3) 56 (0, 0))) := (n5.block _ (heap_lt J4.out) (fun f => f)).trans J4.out
  have HP0' : Hid (∀ j, j < 32 → w5.cell? ⟨g, off + j, none⟩ = (hbs lb)[j]?) := fun j hj => by
    have h2 := HP0.out j hj
    rw [hbs_get lb j (by have := LB.out; omega)] at h2 ⊢
    exact n5.cellOf h2
  have HP1' : Hid (∀ j, j < 32 → w5.cell? ⟨g, off + 32 + j, none⟩ = (hbs lc)[j]?) := fun j hj => by
    have h2 := HP1.out j hj
    rw [hbs_get lc j (by have := LC.out; omega)] at h2 ⊢
    exact n5.cellOf h2
  have N5 : Hid (Nw w w5) := (N1.out.tr N4.out).tr n5
  clear n5 J4 HP0 HP1 N4 N1 G4 HL HS
  go_wp2_with fail
  refine wp_region_grown (by kernel_rfl) (by kernel_rfl) ?_
  repeat (first
    | go_big_quiet_skip
    | (go_big_quiet_want; first
        | (refine quiet_load (.tmp 4) rfl b3 0 rfl r3 R3.out (hash_cells J5.out) ?_; ((try simp only [Act.put, List.setIfInBounds_toArray, List.set_cons_zero, List.set_cons_succ]); go_big_quiet_on))
        | (refine quiet_load (.tmp 59) rfl g off rfl lb LB.out HP0'.out ?_; ((try simp only [Act.put, List.setIfInBounds_toArray, List.set_cons_zero, List.set_cons_succ]); go_big_quiet_on))
        | (refine quiet_load (.tmp 66) rfl g (off + 32) rfl lc LC.out HP1'.out ?_; ((try simp only [Act.put, List.setIfInBounds_toArray, List.set_cons_zero, List.set_cons_succ]); go_big_quiet_on))
        | (refine quiet_eql (.tmp 40) (.tmp 45) rfl r3 R3.out rfl rfl ?_; ((try simp only [Act.put, List.setIfInBounds_toArray, List.set_cons_zero, List.set_cons_succ]); go_big_quiet_on))
        | (refine quiet_eql (.tmp 60) (.tmp 61) rfl lb LB.out rfl rfl ?_; ((try simp only [Act.put, List.setIfInBounds_toArray, List.set_cons_zero, List.set_cons_succ]); go_big_quiet_on))
        | (refine quiet_eql (.tmp 67) (.tmp 68) rfl lc LC.out rfl rfl ?_; ((try simp only [Act.put, List.setIfInBounds_toArray, List.set_cons_zero, List.set_cons_succ]); go_big_quiet_on))
        | (go_big_quiet_op; first | go_big_quiet_on | go_big_quiet_call (first | rfl | with_reducible exact grw_call QLa.out N5.out _ | with_reducible exact grw_call QLb.out N5.out _ | with_reducible exact grw_call QLc.out N5.out _ | with_reducible exact grw_call QN1.out N5.out _ | with_reducible exact grw_call QN2.out N5.out _ | with_reducible exact grw_call QI.out N5.out _))))
  refine wpQuiet_nil ?_
  rintro _ ⟨⟨W, nW⟩, rfl⟩
  go_wp2
  go_ret
  exact ⟨rfl, N5.out.tr nW⟩
end Go.Proofs.YtdhlmpjoggnkkaaGreatDoor
