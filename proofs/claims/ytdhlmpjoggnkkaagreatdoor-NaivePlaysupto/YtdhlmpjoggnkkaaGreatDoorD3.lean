/- The document's path, proof and batch proof of the leaves of a stretch. -/
import Derived.Test.YtdhlmpjoggnkkaaGreatDoorD2
import Derived.Laws.AppendOwn
namespace Go.Proofs.YtdhlmpjoggnkkaaGreatDoor
open Go.RowKit
set_option linter.unusedVariables false
set_option linter.unusedSimpArgs false

theorem run_append_none {P : Program} (w : World) (t ty e : TypeId) (i : TypeInfo) (ht : P.underlying t = some (.slice e)) (hi : P.info? e = some i) {base size : Nat} {v : Value} {n : Nat} {xs : List Value} (hown : w.ownsRow base e size v n xs) :
    (Builtin.append_ #[t, t] ty #[v, .slice none 0 0]).run P w = .ok v w := by
  have hsrc : Src P i.size t (.slice none 0 0) 0 [] w := Src.ofNil w ht 0
  rcases hown.2 with ⟨rfl, rfl⟩ | ⟨g, cap, cur, rfl, _, _, hnc, _⟩
  · rcases hsrc.kind with ⟨e', hk⟩ | hk <;> simp [Builtin.append_, run_underlying ht, run_underlying hk, sizeOf, typeInfo, hi, hsrc.len, hsrc.cells, storeCells]
  · have hr := run_append_room_src (P := P) w t t ty e i ht hi g 0 n cap (.slice none 0 0) 0 [] hsrc (by omega) (fun j hj => by simp at hj) (fun j hj => by simp at hj)
    simpa [World.setCells] using hr
theorem step_app_none {P : Program} {w : World} {ops : Array Oper} {o : Oper} {a : Act} {K : Act → World → Prop} {Q : Exit → Act → World → Prop} {E : Prop} (hg : o.guard = none) (s x : Operand) (t : TypeId)
    (ho : o.op = .call { callee := .builtin .append, args := #[s, x], argTypes := #[t, t] }) (e : TypeId) (i : TypeInfo) (ht : P.underlying t = some (.slice e)) (hi : P.info? e = some i)
    {base size : Nat} (v : Value) {n : Nat} {xs : List Value} (hs : a.eval s = v) (hown : w.ownsRow base e size v n xs) (hx : a.eval x = .slice none 0 0)
    (h : K (a.put o.dst v) w) : if Region.wanted o (yielded ops a.tmps) = true then Oper.wp P o a w K Q else E := by
  have hw : Region.wanted o (yielded ops a.tmps) = true := by simp [Region.wanted, hg]
  rw [if_pos hw]
  have hr := run_append_none (P := P) w t o.type e i ht hi hown
  unfold Oper.wp execOp
  simp only [ho, resolve, invoke, builtin, Sem.run_bind, Sem.run_pure, Result.andThen_ok, List.map_toArray, List.map_cons, List.map_nil, hs, hx, hr]
  exact h
theorem Rwd.cast {w w' : World} {l m : List (List UInt8)} {r : Ending} (h : Rwd w w' l r) (e : l = m) : Rwd w w' m r := e ▸ h
/-- The two parts of a stretch's leaves in memory. -/
theorem parts_at (L : List ByteArray) {b e : Nat} (h2 : 2 ≤ e - b) (he : e ≤ L.length) {p : Option Addr} {cap : Nat} {w : World} (hc : e - b ≤ cap) (hp : Strs w p (sbl L b e)) : ∃ g o, p = some ⟨g, o, none⟩ ∧ Strs w (some ⟨g, o, none⟩) (sbl L b (b + spl (e - b))) ∧ Strs w (some ⟨g, o + spl (e - b), none⟩) (sbl L (b + spl (e - b)) e) := by
  have hl : (sbl L b e).length = e - b := by rw [sbl_len]; omega
  have hk := spl_lt h2
  have hk0 := spl_pos (e - b)
  obtain ⟨x, hx⟩ : ∃ x, (sbl L b e)[0]? = some x := ⟨_, List.getElem?_eq_getElem (by omega)⟩
  obtain ⟨g, o, rfl, _⟩ := hp 0 x hx
  obtain ⟨s1, s2⟩ := hp.halves (spl (e - b)) cap (by omega) hk0 (by omega)
  rw [sbl_take (by omega)] at s1
  rw [sbl_drop] at s2
  exact ⟨g, o, rfl, s1, s2⟩
section
variable (L : List ByteArray) (hLl : L.length ≤ 1048576) (hLs : ∀ x ∈ L, x.size ≤ 65536)
include hLl hLs
theorem mth_at {b e : Nat} (he : e ≤ L.length) {p : Option Addr} {cap : Nat} {w : World} (hc : e - b ≤ cap) (hp : Strs w p (sbl L b e)) : ∀ W, Nw w W → Calls Tryz.prog 17 #[.slice p (e - b) cap] W fun r w' => r = .returned (.agg (hbs (hst L (b, e)))) ∧ Nw W w' := fun W hW => by
  have hl : (sbl L b e).length = e - b := by rw [sbl_len]; omega
  have q := refmth_any (sbl L b e).length (sbl L b e) p cap W (Nat.le_refl _) (by omega) (fun z hz => hLs z (sbl_mem hz)) (by omega) (hp.nw hW)
  rw [hl] at q
  exact q
theorem rpath_any : ∀ (N i b e : Nat) (p : Option Addr) (cap : Nat) (w : World), e - b ≤ N → b ≤ i → i < e → e ≤ L.length → e - b ≤ cap → Strs w p (sbl L b e) →
    Calls Tryz.prog 117 #[.int .i64 ((i - b : Nat) : Int), .slice p (e - b) cap] w fun r w' => Rwd w w' ((pth i b e).map (hst L)) r := by
  intro N
  induction N with
  | zero => intro i b e p cap w h1 h2 h3; omega
  | succ N ih =>
    intro i b e p cap w hN hb he hel hc hp
    by_cases h2 : 2 ≤ e - b
    · have hk := spl_lt h2
      have hk0 := spl_pos (e - b)
      obtain ⟨g, o, rfl, s1, s2⟩ := parts_at L h2 hel hc hp
      by_cases hi : i < b + spl (e - b)
      · rw [pth_left h2 hi, List.map_append]
        refine rpl g o (e - b) cap (spl (e - b)) (i - b) w _ _ (hst_len _ _) (by rw [List.length_map]; have := pth_len 63 i b (b + spl (e - b)) (by rw [p63]; omega); omega) h2 (by omega) rfl hc (by omega) (by omega) (fun W hW => ?_) (fun W hW => ?_)
        · have q := ih i b (b + spl (e - b)) (some ⟨g, o, none⟩) cap W (by omega) hb hi (by omega) (by omega) (s1.nw hW)
          rw [Nat.add_sub_cancel_left] at q
          exact q
        · have q := mth_at L hLl hLs (b := b + spl (e - b)) hel (cap := cap - spl (e - b)) (by omega) s2 W hW
          rw [← Nat.sub_sub] at q
          exact q
      · rw [pth_right h2 hi, List.map_append]
        refine rpr g o (e - b) cap (spl (e - b)) (i - b) (i - (b + spl (e - b))) w _ _ (hst_len _ _) (by rw [List.length_map]; have := pth_len 63 i (b + spl (e - b)) e (by rw [p63]; omega); omega) h2 (by omega) rfl hc (by omega) (by omega) (fun W hW => ?_) (fun W hW => ?_)
        · have q := ih i (b + spl (e - b)) e (some ⟨g, o + spl (e - b), none⟩) (cap - spl (e - b)) W (by omega) (by omega) he hel (by omega) (s2.nw hW)
          rw [show e - (b + spl (e - b)) = e - b - spl (e - b) by omega] at q
          exact q
        · have q := mth_at L hLl hLs (b := b) (e := b + spl (e - b)) (by omega) (cap := cap) (by omega) s1 W hW
          rw [Nat.add_sub_cancel_left] at q
          exact q
    · rw [pth_one h2]
      exact rpath_nil (i - b) (e - b) cap p w (by omega)
theorem rsub_any : ∀ (N o b e : Nat) (kn : Bool) (p : Option Addr) (cap : Nat) (w : World), e - b ≤ N → b < o → o ≤ e → e ≤ L.length → e - b ≤ cap → Strs w p (sbl L b e) →
    Calls Tryz.prog 173 #[.int .i64 ((o - b : Nat) : Int), .slice p (e - b) cap, .bool kn] w fun r w' => Rwd w w' ((prf o b e kn).map (hst L)) r := by
  intro N
  induction N with
  | zero => intro o b e kn p cap w h1 h2 h3; omega
  | succ N ih =>
    intro o b e kn p cap w hN hb he hel hc hp
    by_cases hq : o = e
    · subst hq
      cases kn with
      | true => rw [prf_known]; exact rsub_nil _ _ _ _
      | false => rw [prf_whole]; exact rsub_one _ _ _ _ _ (hst_len _ _) (mth_at L hLl hLs hel hc hp)
    · have h2 : 2 ≤ e - b := by omega
      have hk := spl_lt h2
      have hk0 := spl_pos (e - b)
      obtain ⟨g, of, rfl, s1, s2⟩ := parts_at L h2 hel hc hp
      by_cases hi : o ≤ b + spl (e - b)
      · rw [prf_left h2 hq hi, List.map_append]
        refine rsl g of (e - b) cap (spl (e - b)) (o - b) kn w _ _ (hst_len _ _) (by rw [List.length_map]; have := prf_len 63 o b (b + spl (e - b)) kn (by rw [p63]; omega) hb hi; omega) h2 (by omega) rfl hc (by omega) (by omega) (by omega) (fun W hW => ?_) (fun W hW => ?_)
        · have q := ih o b (b + spl (e - b)) kn (some ⟨g, of, none⟩) cap W (by omega) hb hi (by omega) (by omega) (s1.nw hW)
          rw [Nat.add_sub_cancel_left] at q
          exact q
        · have q := mth_at L hLl hLs (b := b + spl (e - b)) hel (cap := cap - spl (e - b)) (by omega) s2 W hW
          rw [← Nat.sub_sub] at q
          exact q
      · rw [prf_right h2 hq hi, List.map_append]
        refine rsr g of (e - b) cap (spl (e - b)) (o - b) (o - (b + spl (e - b))) kn w _ _ (hst_len _ _) (by rw [List.length_map]; have := prf_len 63 o (b + spl (e - b)) e false (by rw [p63]; omega) (by omega) he; omega) h2 (by omega) rfl hc (by omega) (by omega) (by omega) (by omega) (fun W hW => ?_) (fun W hW => ?_)
        · have q := ih o (b + spl (e - b)) e false (some ⟨g, of + spl (e - b), none⟩) (cap - spl (e - b)) W (by omega) (by omega) he hel (by omega) (s2.nw hW)
          rw [show e - (b + spl (e - b)) = e - b - spl (e - b) by omega] at q
          exact q
        · have q := mth_at L hLl hLs (b := b) (e := b + spl (e - b)) (by omega) (cap := cap) (by omega) s1 W hW
          rw [Nat.add_sub_cancel_left] at q
          exact q
end
theorem rproof_any {w : World} (m n cap : Nat) (p : Option Addr) (l : List (List UInt8)) (q : Calls Tryz.prog 173 #[.int .i64 (m : Int), .slice p n cap, .bool true] w fun r w' => Rwd w w' l r) :
    Calls Tryz.prog 118 #[.int .i64 (m : Int), .slice p n cap] w fun r w' => Rwd w w' l r := by
  go_enter Tryz.func118, Tryz.ntmps118
  go_wp2_with fail
  refine q.mono ?_
  rintro e w1 ⟨v, rfl, o1, n1⟩
  obtain ⟨va, vc, rfl⟩ := ownsRow_form o1
  go_wp2
  exact bodyPost_ret (v := .slice va l.length vc) (by simp [results, Tryz.results118]) rfl ⟨_, rfl, o1, n1⟩

set_option maxHeartbeats 1000000 in
theorem rbat_in (x y f n cap : Nat) (p : Option Addr) (w : World) (h1 : x ≤ f) (h2 : f + n ≤ y) (hn : f + n ≤ 1048576) (hy : y ≤ 1048576) : Calls Tryz.prog 119 #[.int .i64 (x : Int), .int .i64 (y : Int), .slice p n cap, .int .i64 (f : Int)] w fun r w' => Rwd w w' [] r := by
  have a1 : (x : Int) ≤ (f : Int) := by omega
  have a2 : (f : Int) + (n : Int) ≤ (y : Int) := by omega
  go_enter Tryz.func119, Tryz.ntmps119
  go_wp2
  exact bodyPost_ret (v := .slice none 0 0) (by simp [results, Tryz.results119]) rfl ⟨_, rfl, World.ownsRow_nil _ _ _ _, nwr w⟩
set_option maxHeartbeats 1000000 in
theorem rbat_out (x y f n cap : Nat) (p : Option Addr) (w : World) (A : List UInt8) (hA : A.length = 32) (h0 : ¬ (x ≤ f ∧ f + n ≤ y)) (h1 : y ≤ f ∨ f + n ≤ x) (hn : f + n ≤ 1048576) (hy : y ≤ 1048576) (hx : x ≤ 1048576) (QB : ∀ W, Nw w W → Calls Tryz.prog 17 #[.slice p n cap] W fun e w' => e = .returned (.agg (hbs A)) ∧ Nw W w') :
    Calls Tryz.prog 119 #[.int .i64 (x : Int), .int .i64 (y : Int), .slice p n cap, .int .i64 (f : Int)] w fun r w' => Rwd w w' [A] r := by
  have QB' := show Hid (∀ W, Nw w W → Calls Tryz.prog 17 #[.slice p n cap] W fun e w' => e = .returned (.agg (hbs A)) ∧ Nw W w') from QB
  have hRl : (hbs A).size = 32 := by rw [hbs_size, hA]
  have HA : Hid (A.length = 32) := hA
  have hw : (¬ (x : Int) ≤ (f : Int) ∧ (y : Int) ≤ (f : Int)) ∨ (¬ (x : Int) ≤ (f : Int) ∧ ¬ (y : Int) ≤ (f : Int) ∧ (f : Int) + (n : Int) ≤ (x : Int)) ∨ ((x : Int) ≤ (f : Int) ∧ ¬ (f : Int) + (n : Int) ≤ (y : Int) ∧ (y : Int) ≤ (f : Int)) ∨ ((x : Int) ≤ (f : Int) ∧ ¬ (f : Int) + (n : Int) ≤ (y : Int) ∧ ¬ (y : Int) ≤ (f : Int) ∧ (f : Int) + (n : Int) ≤ (x : Int)) := by omega
  clear QB hA h0 h1
  rcases hw with ⟨a1, a2⟩ | ⟨a1, a2, a3⟩ | ⟨a1, a2, a3⟩ | ⟨a1, a2, a3, a4⟩
  all_goals
    go_enter Tryz.func119, Tryz.ntmps119
    go_wp2_with fail
    refine (QB'.out _ (nwr w)).mono ?_
    rintro e w1 ⟨rfl, n1⟩
    go_wp2_with (refine wp_build1 rfl (.tmp 32) rfl (hbs A) rfl hRl ?_)
    exact bodyPost_ret (v := .slice (some ⟨w1.heap.size, 0, none⟩) 1 1) (by simp [results, Tryz.results119]) rfl ⟨_, rfl, lit_row A HA.out n1.size, n1.alloc _⟩
set_option maxRecDepth 100000 in
set_option maxHeartbeats 4000000 in
theorem rbat_cut (g o n cap k x y f : Nat) (w : World) (l m : List (List UInt8)) (hl32 : ∀ z ∈ m, z.length = 32) (hll : l.length ≤ 200) (hml : m.length ≤ 200) (hn : 2 ≤ n) (hn2 : f + n ≤ 1048576) (hy : y ≤ 1048576) (hx : x ≤ 1048576) (hk : k = spl n) (hcap : n ≤ cap) (h0 : ¬ (x ≤ f ∧ f + n ≤ y)) (h1 : ¬ (y ≤ f ∨ f + n ≤ x))
    (QA : ∀ W, Nw w W → Calls Tryz.prog 119 #[.int .i64 (x : Int), .int .i64 (y : Int), .slice (some ⟨g, o, none⟩) k cap, .int .i64 (f : Int)] W fun r w' => Rwd W w' l r)
    (QB : ∀ W, Nw w W → Calls Tryz.prog 119 #[.int .i64 (x : Int), .int .i64 (y : Int), .slice (some ⟨g, o + k, none⟩) (n - k) (cap - k), .int .i64 ((f + k : Nat) : Int)] W fun r w' => Rwd W w' m r) :
    Calls Tryz.prog 119 #[.int .i64 (x : Int), .int .i64 (y : Int), .slice (some ⟨g, o, none⟩) n cap, .int .i64 (f : Int)] w fun r w' => Rwd w w' (l ++ m) r := by
  obtain ⟨i0, hi, hz0, hz1, hz2⟩ := info_parts infoHs
  obtain ⟨fk, hfk⟩ : ∃ fk, fk = f + k := ⟨_, rfl⟩
  rw [← hfk] at QB
  have QA' := show Hid (∀ W, Nw w W → Calls Tryz.prog 119 #[.int .i64 (x : Int), .int .i64 (y : Int), .slice (some ⟨g, o, none⟩) k cap, .int .i64 (f : Int)] W fun r w' => Rwd W w' l r) from QA
  have QB' := show Hid (∀ W, Nw w W → Calls Tryz.prog 119 #[.int .i64 (x : Int), .int .i64 (y : Int), .slice (some ⟨g, o + k, none⟩) (n - k) (cap - k), .int .i64 (fk : Int)] W fun r w' => Rwd W w' m r) from QB
  have QS := show Hid _ from below_any n hn (by omega)
  have hkn := spl_lt hn
  rw [← hk] at QS hkn
  clear QA QB hk
  have hc1 := cut_h g o n cap k .i64 (by omega)
  have hc2 := cut_l g o n cap k .i64 (by omega) (by omega)
  have HKN : Hid (k < n) := hkn
  have HCN : Hid (n ≤ cap) := hcap
  have hadd : (f : Int) + (k : Int) = (fk : Int) := by omega
  have hwr : IntKind.i64.wrap (fk : Int) = (fk : Int) := by rw [IntKind.wrap_i64]; omega
  have hml2 : (hsc m).length = m.length * 32 := hsc_len m hl32
  have HM1 : Hid (∀ u ∈ hsc m, u.oneCell' = true) := by
    intro u hu
    simp only [hsc, List.mem_flatMap] at hu
    obtain ⟨z, _, hz⟩ := hu
    simp only [bc, List.mem_map] at hz
    obtain ⟨c, _, rfl⟩ := hz
    rfl
  have HML2 : Hid ((hsc m).length = m.length * 32) := hml2
  have HLL : Hid (l.length ≤ 200 ∧ m.length ≤ 200) := ⟨hll, hml⟩
  have hw : (¬ (x : Int) ≤ (f : Int) ∧ ¬ (y : Int) ≤ (f : Int) ∧ ¬ (f : Int) + (n : Int) ≤ (x : Int)) ∨ ((x : Int) ≤ (f : Int) ∧ ¬ (f : Int) + (n : Int) ≤ (y : Int) ∧ ¬ (y : Int) ≤ (f : Int) ∧ ¬ (f : Int) + (n : Int) ≤ (x : Int)) := by omega
  have HFK : Hid (fk = f + k) := hfk
  clear hkn hcap hll hml hfk hml2 h0 h1 hl32
  rcases hw with ⟨a1, a2, a3⟩ | ⟨a1, a2, a3, a4⟩
  all_goals
    go_enter Tryz.func119, Tryz.ntmps119
    go_wp2_with fail
    refine (QS.out _).mono ?_
    rintro e w1 ⟨rfl, h1⟩
    have NW1 : Hid (Nw w w1) := by rw [h1]; exact nwr w
    clear h1
    go_wp2_with fail
    have nb : Nw w1 w1.drew := (Fr.refl _ _).drew
    refine wp_region_held_drew (S := fun _ => True) (by kernel_rfl) trivial ?_
    intro hS0
    refine wpAnyH_take (i := 0) (v := .int .i64 (x : Int)) rfl (by kernel_rfl) (by kernel_rfl) (by kernel_rfl) (fun _ _ _ h => h) (Or.inl ⟨by rfl, by intro w hw; go_simp⟩) hS0 ?_
    try simp only [Act.put, List.setIfInBounds_toArray, List.set_cons_zero, List.set_cons_succ]
    refine wpAnyH_take (i := 1) (v := .int .i64 (y : Int)) rfl (by kernel_rfl) (by kernel_rfl) (by kernel_rfl) (fun _ _ _ h => h) (Or.inl ⟨by rfl, by intro w hw; go_simp⟩) hS0 ?_
    try simp only [Act.put, List.setIfInBounds_toArray, List.set_cons_zero, List.set_cons_succ]
    refine wpAnyH_take (i := 2) (v := .slice (some ⟨g, o, none⟩) n cap) rfl (by kernel_rfl) (by kernel_rfl) (by kernel_rfl) (fun _ _ _ h => h) (Or.inl ⟨by rfl, by intro w hw; go_simp⟩) hS0 ?_
    try simp only [Act.put, List.setIfInBounds_toArray, List.set_cons_zero, List.set_cons_succ]
    refine wpAnyH_take (i := 3) (v := .int .i64 (k : Int)) rfl (by kernel_rfl) (by kernel_rfl) (by kernel_rfl) (fun _ _ _ h => h) (Or.inl ⟨by rfl, by intro w hw; go_simp⟩) hS0 ?_
    try simp only [Act.put, List.setIfInBounds_toArray, List.set_cons_zero, List.set_cons_succ]
    refine wpAnyH_take (i := 4) (v := .slice (some ⟨g, o, none⟩) k cap) rfl (by kernel_rfl) (by kernel_rfl) (by kernel_rfl) (fun _ _ _ h => h) (Or.inl ⟨by rfl, by intro w hw; have := hc1 w; go_simp⟩) hS0 ?_
    try simp only [Act.put, List.setIfInBounds_toArray, List.set_cons_zero, List.set_cons_succ]
    refine wpAnyH_take (i := 5) (v := .int .i64 (f : Int)) rfl (by kernel_rfl) (by kernel_rfl) (by kernel_rfl) (fun _ _ _ h => h) (Or.inl ⟨by rfl, by intro w hw; go_simp⟩) hS0 ?_
    try simp only [Act.put, List.setIfInBounds_toArray, List.set_cons_zero, List.set_cons_succ]
    refine wpAnyH_take (i := 7) (v := .int .i64 (x : Int)) rfl (by kernel_rfl) (by kernel_rfl) (by kernel_rfl) (fun _ _ _ h => h) (Or.inl ⟨by rfl, by intro w hw; go_simp⟩) hS0 ?_
    try simp only [Act.put, List.setIfInBounds_toArray, List.set_cons_zero, List.set_cons_succ]
    refine wpAnyH_take (i := 8) (v := .int .i64 (y : Int)) rfl (by kernel_rfl) (by kernel_rfl) (by kernel_rfl) (fun _ _ _ h => h) (Or.inl ⟨by rfl, by intro w hw; go_simp⟩) hS0 ?_
    try simp only [Act.put, List.setIfInBounds_toArray, List.set_cons_zero, List.set_cons_succ]
    refine wpAnyH_take (i := 9) (v := .slice (some ⟨g, o, none⟩) n cap) rfl (by kernel_rfl) (by kernel_rfl) (by kernel_rfl) (fun _ _ _ h => h) (Or.inl ⟨by rfl, by intro w hw; go_simp⟩) hS0 ?_
    try simp only [Act.put, List.setIfInBounds_toArray, List.set_cons_zero, List.set_cons_succ]
    refine wpAnyH_take (i := 10) (v := .int .i64 (k : Int)) rfl (by kernel_rfl) (by kernel_rfl) (by kernel_rfl) (fun _ _ _ h => h) (Or.inl ⟨by rfl, by intro w hw; go_simp⟩) hS0 ?_
    try simp only [Act.put, List.setIfInBounds_toArray, List.set_cons_zero, List.set_cons_succ]
    refine wpAnyH_take (i := 11) (v := .slice (some ⟨g, o + k, none⟩) (n - k) (cap - k)) rfl (by kernel_rfl) (by kernel_rfl) (by kernel_rfl) (fun _ _ _ h => h) (Or.inl ⟨by rfl, by intro w hw; have := hc2 w; go_simp⟩) hS0 ?_
    try simp only [Act.put, List.setIfInBounds_toArray, List.set_cons_zero, List.set_cons_succ]
    refine wpAnyH_take (i := 12) (v := .int .i64 (f : Int)) rfl (by kernel_rfl) (by kernel_rfl) (by kernel_rfl) (fun _ _ _ h => h) (Or.inl ⟨by rfl, by intro w hw; go_simp⟩) hS0 ?_
    try simp only [Act.put, List.setIfInBounds_toArray, List.set_cons_zero, List.set_cons_succ]
    refine wpAnyH_take (i := 13) (v := .int .i64 (k : Int)) rfl (by kernel_rfl) (by kernel_rfl) (by kernel_rfl) (fun _ _ _ h => h) (Or.inl ⟨by rfl, by intro w hw; go_simp⟩) hS0 ?_
    try simp only [Act.put, List.setIfInBounds_toArray, List.set_cons_zero, List.set_cons_succ]
    refine wpAnyH_take (i := 14) (v := .int .i64 (fk : Int)) rfl (by kernel_rfl) (by kernel_rfl) (by kernel_rfl) (fun _ _ _ h => h) (Or.inl ⟨by rfl, by intro w hw; go_simp⟩) hS0 ?_
    try simp only [Act.put, List.setIfInBounds_toArray, List.set_cons_zero, List.set_cons_succ]
    refine wpAnyH_ready (rs := [6]) (by kernel_rfl) (by simp) ?_
    refine AllReadyH.cons rfl (fun K' hK => ?_) AllReadyH.nil
    go_simp
    go_wp2_with (go_at_call 119; refine (QA'.out _ (NW1.out.tr nb)).mono ?_; rintro e2 w2 ⟨v2, rfl, o2, n2⟩)
    have m2 : Nw w1 w2 := Nw.tr nb n2
    have O2 : Hid (w2.ownsRow w.heap.size 56 32 v2 l.length (hsc l)) := ownsRow_base o2 (Nat.le_trans NW1.out.size nb.size)
    obtain ⟨va, vc, rfl⟩ := ownsRow_form o2
    refine hK.out _ _ trivial (fun hS0 => ?_)
    try simp only [Act.put, List.setIfInBounds_toArray, List.set_cons_zero, List.set_cons_succ]
    refine wpAnyH_ready (rs := [15]) (by kernel_rfl) (by simp) ?_
    refine AllReadyH.cons rfl (fun K' hK => ?_) AllReadyH.nil
    go_simp
    go_wp2_with (go_at_call 119; refine (QB'.out _ (NW1.out.tr m2)).mono ?_; rintro e3 w3 ⟨v3, rfl, o3, n3⟩)
    have m3 : Nw w1 w3 := Nw.tr m2 n3
    have O3 : Hid (w3.ownsRow w.heap.size 56 32 (.slice va l.length vc) l.length (hsc l)) := ownsRow_keep O2.out (fun g hg => n3.block g (O2.out.lt g hg).2 (fun f => f))
    have o3c := o3
    refine hK.out _ _ trivial (fun hS0 => ?_)
    try simp only [Act.put, List.setIfInBounds_toArray, List.set_cons_zero, List.set_cons_succ]
    rcases o3.2 with ⟨hv, hn0⟩ | ⟨g3, cap3, cur3, hv, _⟩
    · subst hv
      have hm0 : m = [] := List.length_eq_zero_iff.1 hn0
      refine wpAnyH_ready (rs := [16]) (by kernel_rfl) (by simp) ?_
      refine AllReadyH.cons rfl (fun K' hK => ?_) AllReadyH.nil
      refine step_app_none rfl (.tmp 43) (.tmp 52) 57 rfl 56 i0 Tryz.underlying57 hi (.slice va l.length vc) rfl O3.out rfl ?_
      refine hK.out _ _ trivial (fun hS0 => ?_)
      try simp only [Act.put, List.setIfInBounds_toArray, List.set_cons_zero, List.set_cons_succ]
      refine wpAnyH_ready (rs := [17]) (by kernel_rfl) (by simp) ?_
      refine AllReadyH.cons rfl (fun K' hK => ?_) AllReadyH.nil
      go_simp
      refine hK.out _ _ trivial (fun hS0 => ?_)
      try simp only [Act.put, List.setIfInBounds_toArray, List.set_cons_zero, List.set_cons_succ]
      refine wpAnyH_done (by kernel_rfl) ?_ _
      go_wp2_with fail
      refine bodyPost_ret (v := .slice va l.length vc) (by simp [results, Tryz.results119]) rfl ⟨_, rfl, ?_, NW1.out.tr m3⟩
      rw [hm0, List.append_nil]
      exact O3.out
    · subst hv
      refine wpAnyH_ready (rs := [16]) (by kernel_rfl) (by simp) ?_
      refine AllReadyH.cons rfl (fun K' hK => ?_) AllReadyH.nil
      refine step_two rfl (.tmp 43) (.tmp 52) 57 rfl w.heap.size 56 i0 (.agg z32) 32 32 Tryz.underlying57 hi hz0 hz1 hz2 z32_size (by decide) (.slice va l.length vc) l.length (hsc l) rfl O3.out ⟨g3, 0, none⟩ m.length cap3 (hsc m) rfl HML2.out (fun j u hj => o3c.cells (g := g3) rfl j u hj) HM1.out (by have := HLL.out; unfold maxLen; omega) (by have := HLL.out; omega) (by have := NW1.out.size; have := m3.size; omega) ?_
      intro v' w5 o5 t5
      have n5 : Nw w w5 := (NW1.out.tr m3).trans t5.fr (fun j hj q => by have := (O3.out.lt j q).1; omega)
      obtain ⟨xa, xc, rfl⟩ := ownsRow_form o5
      refine hK.out _ _ trivial (fun hS0 => ?_)
      try simp only [Act.put, List.setIfInBounds_toArray, List.set_cons_zero, List.set_cons_succ]
      refine wpAnyH_ready (rs := [17]) (by kernel_rfl) (by simp) ?_
      refine AllReadyH.cons rfl (fun K' hK => ?_) AllReadyH.nil
      go_simp
      refine hK.out _ _ trivial (fun hS0 => ?_)
      try simp only [Act.put, List.setIfInBounds_toArray, List.set_cons_zero, List.set_cons_succ]
      refine wpAnyH_done (by kernel_rfl) ?_ _
      go_wp2_with fail
      refine bodyPost_ret (v := .slice xa (l.length + m.length) xc) (by simp [results, Tryz.results119]) rfl ⟨_, rfl, ?_, n5⟩
      rw [List.length_append, hsc_app]
      exact o5
theorem rbat_any (L : List ByteArray) (hLl : L.length ≤ 1048576) (hLs : ∀ x ∈ L, x.size ≤ 65536) (x y : Nat) (hxy : x < y) (hy : y ≤ 1048576) : ∀ (N b e : Nat) (p : Option Addr) (cap : Nat) (w : World), e - b ≤ N → b < e → e ≤ L.length → e - b ≤ cap → Strs w p (sbl L b e) →
    Calls Tryz.prog 119 #[.int .i64 (x : Int), .int .i64 (y : Int), .slice p (e - b) cap, .int .i64 (b : Int)] w fun r w' => Rwd w w' ((bat x y b e).map (hst L)) r := by
  intro N
  induction N with
  | zero => intro b e p cap w h1 h2; omega
  | succ N ih =>
    intro b e p cap w hN hb hel hc hp
    have hs : b + (e - b) = e := by omega
    by_cases h0 : y ≤ b ∨ e ≤ x
    · rw [bat_out h0]
      exact rbat_out x y b (e - b) cap p w _ (hst_len _ _) (by omega) (by omega) (by omega) hy (by omega) (mth_at L hLl hLs hel hc hp)
    · by_cases hi : x ≤ b ∧ e ≤ y
      · rw [bat_in h0 hi]
        exact rbat_in x y b (e - b) cap p w hi.1 (by omega) (by omega) hy
      · have h2 : 2 ≤ e - b := by omega
        have hk := spl_lt h2
        have hk0 := spl_pos (e - b)
        obtain ⟨g, o, rfl, s1, s2⟩ := parts_at L h2 hel hc hp
        rw [bat_cut h0 hi, List.map_append]
        refine rbat_cut g o (e - b) cap (spl (e - b)) x y b w _ _ (by intro z hz; obtain ⟨t, _, rfl⟩ := List.mem_map.1 hz; exact hst_len L t) (by rw [List.length_map]; have := bat_len 63 x y b (b + spl (e - b)) (by rw [p63]; omega); omega) (by rw [List.length_map]; have := bat_len 63 x y (b + spl (e - b)) e (by rw [p63]; omega); omega) h2 (by omega) hy (by omega) rfl hc (by omega) (by omega) (fun W hW => ?_) (fun W hW => ?_)
        · have q := ih b (b + spl (e - b)) (some ⟨g, o, none⟩) cap W (by omega) (by omega) (by omega) (by omega) (s1.nw hW)
          rw [Nat.add_sub_cancel_left] at q
          exact q
        · have q := ih (b + spl (e - b)) e (some ⟨g, o + spl (e - b), none⟩) (cap - spl (e - b)) W (by omega) (by omega) hel (by omega) (s2.nw hW)
          rw [show e - (b + spl (e - b)) = e - b - spl (e - b) by omega] at q
          exact q
end Go.Proofs.YtdhlmpjoggnkkaaGreatDoor
