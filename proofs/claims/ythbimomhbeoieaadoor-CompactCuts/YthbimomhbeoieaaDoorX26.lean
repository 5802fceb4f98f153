/- CompactCuts: the walk. -/
import Derived.Test.YthbimomhbeoieaaDoorX25
import Derived.Test.YthbimomhbeoieaaDoorX20
namespace Go.Proofs.YthbimomhbeoieaaDoor
open Go.RowKit Go.Shelf
set_option linter.unusedVariables false
set_option linter.unusedSimpArgs false
theorem cuts_eq (n : Nat) (L : List (List UInt8)) (h32 : ∀ x ∈ L, x.length = 32) (hn : n + L.length ≤ 9223372036854775808) (i k : Nat) (hik : i ≤ k) (hk : k ≤ L.length) :
    pshAll (apt n (L.take i)) (apt (n + i) ((L.take k).drop i)) = apt n (L.take k) ∧ pshAll (apt n (L.take k)) (apt (n + k) ((L.take L.length).drop k)) = apt n L ∧ pshAll (apt (n + i) ((L.take k).drop i)) (apt (n + k) ((L.take L.length).drop k)) = apt (n + i) (L.drop i) ∧ pshAll (apt n (L.take i)) (apt (n + i) (L.drop i)) = apt n L := by
  obtain ⟨f, hf⟩ : ∃ f : Nat → List UInt8, f = fun j => L.getD (j - n) [] := ⟨_, rfl⟩
  have hfi : ∀ j x, L[j]? = some x → f (n + j) = x := fun j x hx => by rw [hf]; simp [List.getD_eq_getElem?_getD, hx]
  have m1 : ∀ x ∈ L.take i, x.length = 32 := fun x hx => h32 x (List.mem_of_mem_take hx)
  have m2 : ∀ x ∈ (L.take k).drop i, x.length = 32 := fun x hx => h32 x (List.mem_of_mem_take (List.mem_of_mem_drop hx))
  have m3 : ∀ x ∈ L.drop k, x.length = 32 := fun x hx => h32 x (List.mem_of_mem_drop hx)
  have m4 : ∀ x ∈ L.take k, x.length = 32 := fun x hx => h32 x (List.mem_of_mem_take hx)
  have m5 : ∀ x ∈ L.drop i, x.length = 32 := fun x hx => h32 x (List.mem_of_mem_drop hx)
  have l1 : (L.take i).length = i := by rw [List.length_take]; omega
  have l2 : ((L.take k).drop i).length = k - i := by rw [List.length_drop, List.length_take]; omega
  have l4 : (L.take k).length = k := by rw [List.length_take]; omega
  have l5 : (L.drop i).length = L.length - i := by rw [List.length_drop]
  have l3 : (L.drop k).length = L.length - k := by rw [List.length_drop]
  have a1 : L.take i ++ (L.take k).drop i = L.take k := by
    have := List.take_append_drop i (L.take k)
    rw [List.take_take, Nat.min_eq_left hik] at this
    exact this
  have a2 : L.take k ++ L.drop k = L := List.take_append_drop k L
  have a3 : (L.take k).drop i ++ L.drop k = L.drop i := by
    have := List.drop_append_of_le_length (l₁ := L.take k) (l₂ := L.drop k) (i := i) (by rw [l4]; exact hik)
    rw [a2] at this
    exact this.symm
  have a4 : L.take i ++ L.drop i = L := List.take_append_drop i L
  rw [List.take_length]
  refine ⟨?_, ?_, ?_, ?_⟩
  · have := join_apt f n (L.take i) ((L.take k).drop i) m1 m2 (by rw [a1, l4]; omega) (fun j x hx => hfi j x (by rw [a1] at hx; have hj := (List.getElem?_eq_some_iff.1 hx).1; rw [l4] at hj; rw [List.getElem?_take, if_pos hj] at hx; exact hx))
    rw [a1, l1] at this
    exact this
  · have := join_apt f n (L.take k) (L.drop k) m4 m3 (by rw [a2]; exact hn) (fun j x hx => hfi j x (by rw [a2] at hx; exact hx))
    rw [a2, l4] at this
    exact this
  · have := join_apt f (n + i) ((L.take k).drop i) (L.drop k) m2 m3 (by rw [a3, l5]; omega) (fun j x hx => by
      rw [a3, List.getElem?_drop] at hx
      rw [Nat.add_assoc]
      exact hfi _ x hx)
    rw [a3, l2, show n + i + (k - i) = n + k by omega] at this
    exact this
  · have := join_apt f n (L.take i) (L.drop i) m1 m5 (by rw [a4]; exact hn) (fun j x hx => hfi j x (by rw [a4] at hx; exact hx))
    rw [a4, l1] at this
    exact this
theorem yields_cut_l {ops : Array Oper} {S : World → Prop} {o : Oper} {a : Act} (hw0 : Region.wanted o (yielded ops a.tmps) = true) (x y : Operand) (ho : o.op = .slice 41 x (some y) none none) (p : Option Addr) (n cap b : Nat) (kd : IntKind) (hx : a.eval x = .slice p n cap) (hy : a.eval y = .int kd (b : Int)) (h1 : b ≤ n) (h2 : n ≤ cap) : YieldsIf Tryd.prog ops S o (.slice (cat9 p cap b) (n - b) (cap - b)) a := by
  refine .inl ⟨hw0, fun w hw => ?_⟩
  unfold execOp
  simp only [ho, Option.map_some, Option.map_none, hx, hy, cuth_l p n cap b kd h1 h2, Sem.run_bind, Sem.run_pure, Result.andThen_ok]
section
variable {w : World} {ops : Array Oper} {rest : List Oper} {o : Oper} {a : Act} {Q : Exit → Act → World → Prop}
theorem wpl_cut_lh (hgd : o.guard = none) (x y z : Operand) (ho : o.op = .slice 41 x (some y) (some z) none) (p : Option Addr) (n cap b e : Nat) (kd kd2 : IntKind) (hx : a.eval x = .slice p n cap) (hy : a.eval y = .int kd (b : Int)) (hz : a.eval z = .int kd2 (e : Int)) (h1 : b ≤ e) (h2 : e ≤ cap)
    (h : wpList Tryd.prog ops Q rest (a.put o.dst (.slice (cat9 p cap b) (e - b) (cap - b))) w) : wpList Tryd.prog ops Q (o :: rest) a w := by
  refine wpList_plain hgd fun K hK => ?_
  unfold Oper.wp execOp
  simp only [ho, Option.map_some, Option.map_none, hx, hy, hz, cuth_lh p n cap b e kd kd2 h1 h2, Sem.run_bind, Sem.run_pure, Result.andThen_ok]
  exact hK _ _ h
theorem wpl_cut_l (hgd : o.guard = none) (x y : Operand) (ho : o.op = .slice 41 x (some y) none none) (p : Option Addr) (n cap b : Nat) (kd : IntKind) (hx : a.eval x = .slice p n cap) (hy : a.eval y = .int kd (b : Int)) (h1 : b ≤ n) (h2 : n ≤ cap)
    (h : wpList Tryd.prog ops Q rest (a.put o.dst (.slice (cat9 p cap b) (n - b) (cap - b))) w) : wpList Tryd.prog ops Q (o :: rest) a w := by
  refine wpList_plain hgd fun K hK => ?_
  unfold Oper.wp execOp
  simp only [ho, Option.map_some, Option.map_none, hx, hy, cuth_l p n cap b kd h1 h2, Sem.run_bind, Sem.run_pure, Result.andThen_ok]
  exact hK _ _ h
theorem wpl_cut_h (hgd : o.guard = none) (x y : Operand) (ho : o.op = .slice 41 x none (some y) none) (p : Option Addr) (n cap k : Nat) (kd : IntKind) (hx : a.eval x = .slice p n cap) (hy : a.eval y = .int kd (k : Int)) (h1 : k ≤ cap)
    (h : wpList Tryd.prog ops Q rest (a.put o.dst (.slice (cat9 p cap 0) k cap)) w) : wpList Tryd.prog ops Q (o :: rest) a w := by
  refine wpList_plain hgd fun K hK => ?_
  unfold Oper.wp execOp
  simp only [ho, Option.map_some, Option.map_none, hx, hy, cuth_h p n cap k kd h1, Sem.run_bind, Sem.run_pure, Result.andThen_ok]
  exact hK _ _ h
end
set_option maxRecDepth 100000 in
set_option maxHeartbeats 20000000 in
theorem cuts9_any (b0 : Nat) (hb0 : b0 < 18446744073709551616) (L : List (List UInt8)) (h32 : ∀ x ∈ L, x.length = 32) (ad : Option Addr) (cap : Nat) (hcap : L.length ≤ cap) (A B : Nat) (hA : A < 256) (hB : B < 256) (w : World) (hH : Hrs w ad L) (hL : Laid w) (hT : TabAt w) :
    Calls Tryd.prog 5 #[.agg #[.int .u64 (b0 : Int), .slice ad L.length cap, .int .u8 (A : Int), .int .u8 (B : Int)]] w fun e w' => e = .returned (.bool true) ∧ Nw w w' := by
  have HH : Hid (Hrs w ad L) := hH
  have H32 : Hid (∀ x ∈ L, x.length = 32) := h32
  have HL : Hid (Laid w) := hL
  have HT : Hid (TabAt w) := hT
  have QA : Hid (∀ V, Nw w V → Calls Tryd.prog 15 #[] V fun e w' => e = .returned (.bool true) ∧ Nw V w') := fun V nV => alive9_any V (HL.out.nw nV)
  obtain ⟨m, hm⟩ : ∃ m, m = L.length := ⟨_, rfl⟩
  have HM : Hid (L.length = m) := hm.symm
  rw [← hm] at hcap ⊢
  have HCAP : Hid (m ≤ cap) := hcap
  clear hH h32 hL hT hm hcap
  have bc : ∀ W : World, (W.alloc (.cells #[.int .u64 (b0 : Int), .slice ad m cap, .int .u8 (A : Int), .int .u8 (B : Int)] 55)).cell? ⟨W.heap.size, 1, none⟩ = some (.slice ad m cap) := fun W => (cell_of (heap_new _ _) 1).trans rfl
  by_cases h300 : 300 < m
  · have hi : (300 : Int) < (m : Int) := by omega
    clear bc
    go_enter Tryd.func5, Tryd.ntmps5
    go_wp2_with fail
    refine (QA.out _ (nwa w _)).mono ?_
    rintro e w1 ⟨rfl, n1⟩
    go_wp2
    go_ret
    exact ⟨rfl, Nw.tr (nwa w _) n1⟩
  · have hi : ¬ (300 : Int) < (m : Int) := by omega
    have hm300 : m ≤ 300 := by omega
    have hst := sta_le b0 (m + 1) (by omega)
    obtain ⟨n, hn⟩ : ∃ n, n = sta b0 (m + 1) := ⟨_, rfl⟩
    have q0 : Hid (∀ V : World, Calls Tryd.prog 19 #[.int .u64 (b0 : Int), .int .i64 ((m : Int) + 1)] V fun e w' => e = .returned (.int .u64 (n : Int)) ∧ w' = V) := fun V => by
      have q := start_any b0 (m + 1) hb0 (by omega) V
      rw [show ((m + 1 : Nat) : Int) = (m : Int) + 1 by omega, ← hn] at q
      exact q
    rw [← hn] at hst
    have HST : Hid (n + (m + 1) ≤ 9223372036854775808) := hst
    have hm1 : ¬ (m : Int) + 1 = 0 := by omega
    have hAi : (A : Int) < 256 := by omega
    have hBi : (B : Int) < 256 := by omega
    clear hn hst h300 bc
    go_enter Tryd.func5, Tryd.ntmps5
    go_wp2_with fail
    refine (q0.out _).mono ?_
    rintro e wz ⟨rfl, rfl⟩
    go_upto_if 46 with fail
    obtain ⟨w1, hw1⟩ : ∃ z, w.alloc (.cells #[.int .u64 (b0 : Int), .slice ad m cap, .int .u8 (A : Int), .int .u8 (B : Int)] 55) = z := ⟨_, rfl⟩
    have N1 : Hid (Nw w w1) := by show Nw _ _; rw [← hw1]; exact nwa w _
    rw [hw1]
    clear hw1
    obtain ⟨i0, hi0⟩ : ∃ z, z = A % (m + 1) := ⟨_, rfl⟩
    obtain ⟨k0, hk0⟩ : ∃ z, z = B % (m + 1) := ⟨_, rfl⟩
    have ei : (A : Int) % ((m : Int) + 1) = (i0 : Int) := by subst hi0; simp
    have ek : (B : Int) % ((m : Int) + 1) = (k0 : Int) := by subst hk0; simp
    have hi0m : i0 ≤ m := by have := Nat.mod_lt A (show 0 < m + 1 by omega); omega
    have hk0m : k0 ≤ m := by have := Nat.mod_lt B (show 0 < m + 1 by omega); omega
    rw [ei, ek]
    clear ei ek hi0 hk0 hAi hBi hA hB hm1 hi hb0 q0
    go_cut [5, 6] from 46 to 48 (fun p q wx => ∃ i k : Nat, i ≤ k ∧ k ≤ m ∧ p = .int .i64 (i : Int) ∧ q = .int .i64 (k : Int) ∧ wx = w1)
    case first =>
      by_cases hgt : k0 < i0
      · have hgi : (k0 : Int) < (i0 : Int) := by omega
        have hgb : decide ((k0 : Int) < (i0 : Int)) = true := by simpa using hgt
        go_wp2_with fail
        go_meet
        exact ⟨k0, i0, by omega, hi0m, rfl, rfl, rfl⟩
      · have hgi : ¬ (k0 : Int) < (i0 : Int) := by omega
        have hgb : decide ((k0 : Int) < (i0 : Int)) = false := by simpa using hgt
        go_wp2_with fail
        go_meet
        exact ⟨i0, k0, by omega, hk0m, rfl, rfl, rfl⟩
    case rest =>
      obtain ⟨i, k, hik, hkm, rfl, rfl, hwc⟩ := hcut
      subst hwc
      obtain ⟨w1, hw1⟩ : ∃ z, z = wc := ⟨_, rfl⟩
      subst hw1
      clear hi0m hk0m
      have hW0 : Hid (∀ V, Nw w V → Hrs V ad L) := fun V nV => HH.out.nw H32.out nV
      obtain ⟨a1, ha1⟩ : ∃ z, z = n + i := ⟨_, rfl⟩
      obtain ⟨a2, ha2⟩ : ∃ z, z = n + k := ⟨_, rfl⟩
      obtain ⟨E, hE⟩ : ∃ z, z = n + m := ⟨_, rfl⟩
      have HA1 : Hid (a1 = n + i) := ha1
      have HA2 : Hid (a2 = n + k) := ha2
      have HE : Hid (E = n + m) := hE
      have e0 : IntKind.u64.wrap (i : Int) = (i : Int) := by rw [w64]; omega
      have e1 : IntKind.u64.wrap (k : Int) = (k : Int) := by rw [w64]; omega
      have e2 : IntKind.u64.wrap (m : Int) = (m : Int) := by rw [w64]; omega
      have e3 : IntKind.u64.wrap ((n : Int) + (i : Int)) = (a1 : Int) := by have := HST.out; rw [w64]; omega
      have e4 : IntKind.u64.wrap ((n : Int) + (k : Int)) = (a2 : Int) := by have := HST.out; rw [w64]; omega
      have e5 : IntKind.u64.wrap ((n : Int) + (m : Int)) = (E : Int) := by have := HST.out; rw [w64]; omega
      have hkc : k ≤ cap := by have := HCAP.out; omega
      have hic : i ≤ cap := by omega
      have hee : ∀ W : World, (binOp .neq 34 .nilIface .nilIface).run Tryd.prog W = .ok (.bool false) W := fun W => by kernel_rfl
      obtain ⟨L1, hL1⟩ : ∃ z, z = L.take i := ⟨_, rfl⟩
      obtain ⟨L2, hL2⟩ : ∃ z, z = (L.take k).drop i := ⟨_, rfl⟩
      obtain ⟨L3, hL3⟩ : ∃ z, z = (L.take L.length).drop k := ⟨_, rfl⟩
      have M1 : Hid (∀ x ∈ L1, x.length = 32) := fun x hx => H32.out x (by rw [hL1] at hx; exact List.mem_of_mem_take hx)
      have M2 : Hid (∀ x ∈ L2, x.length = 32) := fun x hx => H32.out x (by rw [hL2] at hx; exact List.mem_of_mem_take (List.mem_of_mem_drop hx))
      have M3 : Hid (∀ x ∈ L3, x.length = 32) := fun x hx => H32.out x (by rw [hL3] at hx; exact List.mem_of_mem_take (List.mem_of_mem_drop hx))
      have K1 : Hid (L1.length = i) := by show _ = _; rw [hL1, List.length_take, HM.out]; omega
      have K2 : Hid (L2.length = k - i) := by show _ = _; rw [hL2, List.length_drop, List.length_take, HM.out]; omega
      have K3 : Hid (L3.length = m - k) := by show _ = _; rw [hL3, List.length_drop, List.length_take, HM.out]; omega
      have PE := cuts_eq n L H32.out (by rw [HM.out]; have := HST.out; omega) i k hik (by rw [HM.out]; exact hkm)
      rw [← hL1, ← hL2, ← hL3, ← ha1, ← ha2] at PE
      obtain ⟨Tw, hTw⟩ : ∃ z, z = apt n L := ⟨_, rfl⟩
      obtain ⟨T12, hT12⟩ : ∃ z, z = apt n (L.take k) := ⟨_, rfl⟩
      obtain ⟨T23, hT23⟩ : ∃ z, z = apt a1 (L.drop i) := ⟨_, rfl⟩
      obtain ⟨Tx, hTx⟩ : ∃ z, z = apt n L1 := ⟨_, rfl⟩
      obtain ⟨Ty, hTy⟩ : ∃ z, z = apt a1 L2 := ⟨_, rfl⟩
      obtain ⟨Tz, hTz⟩ : ∃ z, z = apt a2 L3 := ⟨_, rfl⟩
      rw [← hTw, ← hT12, ← hT23, ← hTx, ← hTy, ← hTz] at PE
      have HPE : Hid (pshAll Tx Ty = T12 ∧ pshAll T12 Tz = Tw ∧ pshAll Ty Tz = T23 ∧ pshAll Tx T23 = Tw) := PE
      have bw : Tw.length ≤ 128 := by rw [hTw]; exact apt_len n L H32.out (by rw [HM.out]; have := HST.out; omega)
      have bx : Tx.length ≤ 128 := by rw [hTx]; exact apt_len n L1 M1.out (by rw [K1.out]; have := HST.out; omega)
      have byl : Ty.length ≤ 128 := by rw [hTy]; exact apt_len a1 L2 M2.out (by rw [K2.out]; have := HST.out; omega)
      have bz : Tz.length ≤ 128 := by rw [hTz]; exact apt_len a2 L3 M3.out (by rw [K3.out]; have := HST.out; omega)
      have b12 : T12.length ≤ 128 := by rw [hT12]; exact apt_len n _ (fun x hx => H32.out x (List.mem_of_mem_take hx)) (by rw [List.length_take, HM.out]; have := HST.out; omega)
      have b23 : T23.length ≤ 128 := by rw [hT23]; exact apt_len a1 _ (fun x hx => H32.out x (List.mem_of_mem_drop hx)) (by rw [List.length_drop, HM.out]; have := HST.out; omega)
      have BL : Hid (Tw.length ≤ 128 ∧ Tx.length ≤ 128 ∧ Ty.length ≤ 128 ∧ Tz.length ≤ 128 ∧ T12.length ≤ 128 ∧ T23.length ≤ 128) := ⟨bw, bx, byl, bz, b12, b23⟩
      have CV : Hid (ats Tw = cov n E) := by
        have q := ((apt_ok n _ L rfl H32.out (by rw [HM.out]; have := HST.out; omega)).2).cov
        rw [HM.out, ← hE, ← hTw] at q
        exact q
      have SW : Hid (∀ V, Nw w V → Hss V (.slice ad m cap) L) := fun V nV => ⟨ad, cap, by rw [HM.out], hW0.out V nV⟩
      have S1 : Hid (∀ V, Nw w V → Hss V (.slice (cat9 ad cap 0) i cap) L1) := fun V nV => by
        have q := (hW0.out V nV).cut 0 i cap (by rw [HM.out]; exact HCAP.out) (by rw [HM.out]; omega) (by omega)
        rw [List.drop_zero, Nat.sub_zero, Nat.sub_zero, ← hL1] at q
        exact q
      have S2 : Hid (∀ V, Nw w V → Hss V (.slice (cat9 ad cap i) (k - i) (cap - i)) L2) := fun V nV => by
        have q := (hW0.out V nV).cut i k cap (by rw [HM.out]; exact HCAP.out) (by rw [HM.out]; omega) hik
        rw [← hL2] at q
        exact q
      have S3 : Hid (∀ V, Nw w V → Hss V (.slice (cat9 ad cap k) (m - k) (cap - k)) L3) := fun V nV => by
        have q := (hW0.out V nV).cut k L.length cap (by rw [HM.out]; exact HCAP.out) (Nat.le_refl _) (by rw [HM.out]; exact hkm)
        rw [← hL3, HM.out] at q
        exact q
      have QW' : Hid (∀ V, Nw w V → Calls Tryd.prog 20 #[.int .u64 (n : Int), .slice ad m cap] V fun e w' => ∃ rb, e = .returned (.pointer (some ⟨rb, 0, none⟩)) ∧ Rp w' (fun k => V.heap.size ≤ k ∧ k < w'.heap.size) rb n E Tw ∧ Nw V w') := fun V nV => by
        have q := pappended n L H32.out _ (SW.out V nV) (by rw [HM.out]; have := HST.out; omega) (by rw [HM.out]; omega) (HL.out.nw nV)
        rw [HM.out, ← hE, ← hTw] at q
        exact q
      have QX' : Hid (∀ V, Nw w V → Calls Tryd.prog 20 #[.int .u64 (n : Int), .slice (cat9 ad cap 0) i cap] V fun e w' => ∃ rb, e = .returned (.pointer (some ⟨rb, 0, none⟩)) ∧ Rp w' (fun k => V.heap.size ≤ k ∧ k < w'.heap.size) rb n a1 Tx ∧ Nw V w') := fun V nV => by
        have q := pappended n L1 M1.out _ (S1.out V nV) (by rw [K1.out]; have := HST.out; omega) (by rw [K1.out]; omega) (HL.out.nw nV)
        rw [K1.out, ← ha1, ← hTx] at q
        exact q
      have QY' : Hid (∀ V, Nw w V → Calls Tryd.prog 20 #[.int .u64 (a1 : Int), .slice (cat9 ad cap i) (k - i) (cap - i)] V fun e w' => ∃ rb, e = .returned (.pointer (some ⟨rb, 0, none⟩)) ∧ Rp w' (fun k => V.heap.size ≤ k ∧ k < w'.heap.size) rb a1 a2 Ty ∧ Nw V w') := fun V nV => by
        have q := pappended a1 L2 M2.out _ (S2.out V nV) (by rw [K2.out]; have := HST.out; omega) (by rw [K2.out]; omega) (HL.out.nw nV)
        rw [K2.out, show a1 + (k - i) = a2 by omega, ← hTy] at q
        exact q
      have QZ' : Hid (∀ V, Nw w V → Calls Tryd.prog 20 #[.int .u64 (a2 : Int), .slice (cat9 ad cap k) (m - k) (cap - k)] V fun e w' => ∃ rb, e = .returned (.pointer (some ⟨rb, 0, none⟩)) ∧ Rp w' (fun k => V.heap.size ≤ k ∧ k < w'.heap.size) rb a2 E Tz ∧ Nw V w') := fun V nV => by
        have q := pappended a2 L3 M3.out _ (S3.out V nV) (by rw [K3.out]; have := HST.out; omega) (by rw [K3.out]; omega) (HL.out.nw nV)
        rw [K3.out, show a2 + (m - k) = E by omega, ← hTz] at q
        exact q
      have HIK : Hid (i ≤ k ∧ k ≤ m ∧ k ≤ cap ∧ m ≤ cap) := ⟨hik, hkm, hkc, HCAP.out⟩
      clear ha1 ha2 hE hL1 hL2 hL3 PE hTw hT12 hT23 hTx hTy hTz bw bx byl bz b12 b23 hkc hic hik hkm
      go_wp2_with fail
      refine (QW'.out _ N1.out).mono ?_
      rintro e w2 ⟨bw, rfl, r2, m2⟩
      have Rbw : Hid (Rp w2 (fun k => w1.heap.size ≤ k ∧ k < w2.heap.size) bw n E Tw) := r2
      have D2 : Hid (Nw w1 w2) := m2
      have N2 : Hid (Nw w w2) := N1.out.tr m2
      clear r2 m2
      go_wp2_with (refine wpl_cut_h rfl (.tmp 53) (.tmp 54) rfl ad m cap i .i64 rfl rfl (by have := HIK.out; omega) ?_)
      refine (QX'.out _ N2.out).mono ?_
      rintro e w3 ⟨bx, rfl, r3, m3⟩
      have Rbx : Hid (Rp w3 (fun k => w2.heap.size ≤ k ∧ k < w3.heap.size) bx n a1 Tx) := r3
      have D3 : Hid (Nw w2 w3) := m3
      have N3 : Hid (Nw w w3) := N2.out.tr m3
      clear r3 m3
      go_wp2_with (refine wpl_cut_lh rfl (.tmp 61) (.tmp 62) (.tmp 63) rfl ad m cap i k .i64 .i64 rfl rfl rfl HIK.out.1 HIK.out.2.2.1 ?_)
      refine (QY'.out _ N3.out).mono ?_
      rintro e w4 ⟨by9, rfl, r4, m4⟩
      have Rby9 : Hid (Rp w4 (fun k => w3.heap.size ≤ k ∧ k < w4.heap.size) by9 a1 a2 Ty) := r4
      have D4 : Hid (Nw w3 w4) := m4
      have N4 : Hid (Nw w w4) := N3.out.tr m4
      clear r4 m4
      go_wp2_with (refine wpl_cut_l rfl (.tmp 70) (.tmp 71) rfl ad m cap k .i64 rfl rfl HIK.out.2.1 HIK.out.2.2.2 ?_)
      refine (QZ'.out _ N4.out).mono ?_
      rintro e w5 ⟨bz, rfl, r5, m5⟩
      have Rbz : Hid (Rp w5 (fun k => w4.heap.size ≤ k ∧ k < w5.heap.size) bz a2 E Tz) := r5
      have D5 : Hid (Nw w4 w5) := m5
      have N5 : Hid (Nw w w5) := N4.out.tr m5
      clear r5 m5
      go_wp2_with fail
      refine (pcopy (Rbx.out.nw (D4.out.tr D5.out)) (by have := BL.out; omega) (HL.out.nw N5.out)).mono ?_
      rintro e w6 ⟨bl, rfl, r6, m6⟩
      have Rbl : Hid (Rp w6 (fun k => w5.heap.size ≤ k ∧ k < w6.heap.size) bl n a1 Tx) := r6
      have D6 : Hid (Nw w5 w6) := m6
      have N6 : Hid (Nw w w6) := N5.out.tr m6
      clear r6 m6
      go_wp2_with fail
      refine (pcopy (Rby9.out.nw (D5.out.tr D6.out)) (by have := BL.out; omega) (HL.out.nw N6.out)).mono ?_
      rintro e w7 ⟨br, rfl, r7, m7⟩
      have Rbr : Hid (Rp w7 (fun k => w6.heap.size ≤ k ∧ k < w7.heap.size) br a1 a2 Ty) := r7
      have D7 : Hid (Nw w6 w7) := m7
      have N7 : Hid (Nw w w7) := N6.out.tr m7
      clear r7 m7
      go_wp2_with fail
      refine (pcopy (Rbx.out.nw (((D4.out.tr D5.out).tr D6.out).tr D7.out)) (by have := BL.out; omega) (HL.out.nw N7.out)).mono ?_
      rintro e w8 ⟨bo, rfl, r8, m8⟩
      have Rbo : Hid (Rp w8 (fun k => w7.heap.size ≤ k ∧ k < w8.heap.size) bo n a1 Tx) := r8
      have D8 : Hid (Nw w7 w8) := m8
      have N8 : Hid (Nw w w8) := N7.out.tr m8
      clear r8 m8
      have ORD : Hid (w1.heap.size ≤ w2.heap.size ∧ w2.heap.size ≤ w3.heap.size ∧ w3.heap.size ≤ w4.heap.size ∧ w4.heap.size ≤ w5.heap.size ∧ w5.heap.size ≤ w6.heap.size ∧ w6.heap.size ≤ w7.heap.size ∧ w7.heap.size ≤ w8.heap.size) := by
        have s2 := D2.out.size; have s3 := D3.out.size; have s4 := D4.out.size; have s5 := D5.out.size; have s6 := D6.out.size; have s7 := D7.out.size; have s8 := D8.out.size
        exact ⟨s2, s3, s4, s5, s6, s7, s8⟩
      have A8 : Hid (Rp w8 (fun k => w1.heap.size ≤ k ∧ k < w2.heap.size) bw n E Tw) := Rbw.out.nw (((((D3.out.tr D4.out).tr D5.out).tr D6.out).tr D7.out).tr D8.out)
      have Y8 : Hid (Rp w8 (fun k => w3.heap.size ≤ k ∧ k < w4.heap.size) by9 a1 a2 Ty) := Rby9.out.nw (((D5.out.tr D6.out).tr D7.out).tr D8.out)
      have Z8 : Hid (Rp w8 (fun k => w4.heap.size ≤ k ∧ k < w5.heap.size) bz a2 E Tz) := Rbz.out.nw ((D6.out.tr D7.out).tr D8.out)
      have L8 : Hid (Rp w8 (fun k => w5.heap.size ≤ k ∧ k < w6.heap.size) bl n a1 Tx) := Rbl.out.nw (D7.out.tr D8.out)
      have G8 : Hid (Rp w8 (fun k => w6.heap.size ≤ k ∧ k < w7.heap.size) br a1 a2 Ty) := Rbr.out.nw D8.out
      have O8 : Hid (Rp w8 (fun k => w7.heap.size ≤ k ∧ k < w8.heap.size) bo n a1 Tx) := Rbo.out
      clear Rbw Rbx Rby9 Rbz Rbl Rbr Rbo D2 D3 D4 D5 D6 D7 D8 QX'
      go_wp2_with fail
      refine (pjoin L8.out Y8.out (fun k h1 h2 => by have oo := ORD.out; omega) (by have := BL.out; omega) (HL.out.nw N8.out)).mono ?_
      rintro e w9 ⟨rfl, r9, f9⟩
      rw [HPE.out.1] at r9
      have F9 : Hid (Fr (fun k => w5.heap.size ≤ k ∧ k < w6.heap.size) w8 w9) := f9
      have L9 : Hid (Rp w9 (fun k => (w5.heap.size ≤ k ∧ k < w6.heap.size) ∨ (w8.heap.size ≤ k ∧ k < w9.heap.size)) bl n a2 T12) := r9
      have s9 : w8.heap.size ≤ w9.heap.size := f9.size
      have N9 : Hid (Nw w w9) := N8.out.trans f9 (fun k hk q => by have oo := ORD.out; have := N1.out.size; omega)
      have A9 : Hid (Rp w9 (fun k => w1.heap.size ≤ k ∧ k < w2.heap.size) bw n E Tw) := A8.out.fr F9.out (fun k h1 h2 => by have oo := ORD.out; omega)
      have Y9 : Hid (Rp w9 (fun k => w3.heap.size ≤ k ∧ k < w4.heap.size) by9 a1 a2 Ty) := Y8.out.fr F9.out (fun k h1 h2 => by have oo := ORD.out; omega)
      have Z9 : Hid (Rp w9 (fun k => w4.heap.size ≤ k ∧ k < w5.heap.size) bz a2 E Tz) := Z8.out.fr F9.out (fun k h1 h2 => by have oo := ORD.out; omega)
      have G9 : Hid (Rp w9 (fun k => w6.heap.size ≤ k ∧ k < w7.heap.size) br a1 a2 Ty) := G8.out.fr F9.out (fun k h1 h2 => by have oo := ORD.out; omega)
      have O9 : Hid (Rp w9 (fun k => w7.heap.size ≤ k ∧ k < w8.heap.size) bo n a1 Tx) := O8.out.fr F9.out (fun k h1 h2 => by have oo := ORD.out; omega)
      have ORD' := ORD.out
      have ORD : Hid (w1.heap.size ≤ w2.heap.size ∧ w2.heap.size ≤ w3.heap.size ∧ w3.heap.size ≤ w4.heap.size ∧ w4.heap.size ≤ w5.heap.size ∧ w5.heap.size ≤ w6.heap.size ∧ w6.heap.size ≤ w7.heap.size ∧ w7.heap.size ≤ w8.heap.size ∧ w8.heap.size ≤ w9.heap.size) := by
        refine ⟨?_, ?_, ?_, ?_, ?_, ?_, ?_, ?_⟩ <;> omega
      clear r9 f9 s9 ORD'
      go_wp2_with fail
      refine (pjoin L9.out Z9.out (fun k h1 h2 => by have oo := ORD.out; omega) (by have := BL.out; omega) (HL.out.nw N9.out)).mono ?_
      rintro e w10 ⟨rfl, r10, f10⟩
      rw [HPE.out.2.1] at r10
      have F10 : Hid (Fr (fun k => (w5.heap.size ≤ k ∧ k < w6.heap.size) ∨ (w8.heap.size ≤ k ∧ k < w9.heap.size)) w9 w10) := f10
      have L10 : Hid (Rp w10 (fun k => ((w5.heap.size ≤ k ∧ k < w6.heap.size) ∨ (w8.heap.size ≤ k ∧ k < w9.heap.size)) ∨ (w9.heap.size ≤ k ∧ k < w10.heap.size)) bl n E Tw) := r10
      have s10 : w9.heap.size ≤ w10.heap.size := f10.size
      have N10 : Hid (Nw w w10) := N9.out.trans f10 (fun k hk q => by have oo := ORD.out; have := N1.out.size; omega)
      have A10 : Hid (Rp w10 (fun k => w1.heap.size ≤ k ∧ k < w2.heap.size) bw n E Tw) := A9.out.fr F10.out (fun k h1 h2 => by have oo := ORD.out; omega)
      have Y10 : Hid (Rp w10 (fun k => w3.heap.size ≤ k ∧ k < w4.heap.size) by9 a1 a2 Ty) := Y9.out.fr F10.out (fun k h1 h2 => by have oo := ORD.out; omega)
      have Z10 : Hid (Rp w10 (fun k => w4.heap.size ≤ k ∧ k < w5.heap.size) bz a2 E Tz) := Z9.out.fr F10.out (fun k h1 h2 => by have oo := ORD.out; omega)
      have G10 : Hid (Rp w10 (fun k => w6.heap.size ≤ k ∧ k < w7.heap.size) br a1 a2 Ty) := G9.out.fr F10.out (fun k h1 h2 => by have oo := ORD.out; omega)
      have O10 : Hid (Rp w10 (fun k => w7.heap.size ≤ k ∧ k < w8.heap.size) bo n a1 Tx) := O9.out.fr F10.out (fun k h1 h2 => by have oo := ORD.out; omega)
      have ORD' := ORD.out
      have ORD : Hid (w1.heap.size ≤ w2.heap.size ∧ w2.heap.size ≤ w3.heap.size ∧ w3.heap.size ≤ w4.heap.size ∧ w4.heap.size ≤ w5.heap.size ∧ w5.heap.size ≤ w6.heap.size ∧ w6.heap.size ≤ w7.heap.size ∧ w7.heap.size ≤ w8.heap.size ∧ w8.heap.size ≤ w9.heap.size ∧ w9.heap.size ≤ w10.heap.size) := by
        refine ⟨?_, ?_, ?_, ?_, ?_, ?_, ?_, ?_, ?_⟩ <;> omega
      clear r10 f10 s10 ORD'
      go_wp2_with fail
      refine (pjoin G10.out Z10.out (fun k h1 h2 => by have oo := ORD.out; omega) (by have := BL.out; omega) (HL.out.nw N10.out)).mono ?_
      rintro e w11 ⟨rfl, r11, f11⟩
      rw [HPE.out.2.2.1] at r11
      have F11 : Hid (Fr (fun k => w6.heap.size ≤ k ∧ k < w7.heap.size) w10 w11) := f11
      have G11 : Hid (Rp w11 (fun k => (w6.heap.size ≤ k ∧ k < w7.heap.size) ∨ (w10.heap.size ≤ k ∧ k < w11.heap.size)) br a1 E T23) := r11
      have s11 : w10.heap.size ≤ w11.heap.size := f11.size
      have N11 : Hid (Nw w w11) := N10.out.trans f11 (fun k hk q => by have oo := ORD.out; have := N1.out.size; omega)
      have A11 : Hid (Rp w11 (fun k => w1.heap.size ≤ k ∧ k < w2.heap.size) bw n E Tw) := A10.out.fr F11.out (fun k h1 h2 => by have oo := ORD.out; omega)
      have Y11 : Hid (Rp w11 (fun k => w3.heap.size ≤ k ∧ k < w4.heap.size) by9 a1 a2 Ty) := Y10.out.fr F11.out (fun k h1 h2 => by have oo := ORD.out; omega)
      have Z11 : Hid (Rp w11 (fun k => w4.heap.size ≤ k ∧ k < w5.heap.size) bz a2 E Tz) := Z10.out.fr F11.out (fun k h1 h2 => by have oo := ORD.out; omega)
      have L11 : Hid (Rp w11 (fun k => ((w5.heap.size ≤ k ∧ k < w6.heap.size) ∨ (w8.heap.size ≤ k ∧ k < w9.heap.size)) ∨ (w9.heap.size ≤ k ∧ k < w10.heap.size)) bl n E Tw) := L10.out.fr F11.out (fun k h1 h2 => by have oo := ORD.out; omega)
      have O11 : Hid (Rp w11 (fun k => w7.heap.size ≤ k ∧ k < w8.heap.size) bo n a1 Tx) := O10.out.fr F11.out (fun k h1 h2 => by have oo := ORD.out; omega)
      have ORD' := ORD.out
      have ORD : Hid (w1.heap.size ≤ w2.heap.size ∧ w2.heap.size ≤ w3.heap.size ∧ w3.heap.size ≤ w4.heap.size ∧ w4.heap.size ≤ w5.heap.size ∧ w5.heap.size ≤ w6.heap.size ∧ w6.heap.size ≤ w7.heap.size ∧ w7.heap.size ≤ w8.heap.size ∧ w8.heap.size ≤ w9.heap.size ∧ w9.heap.size ≤ w10.heap.size ∧ w10.heap.size ≤ w11.heap.size) := by
        refine ⟨?_, ?_, ?_, ?_, ?_, ?_, ?_, ?_, ?_, ?_⟩ <;> omega
      clear r11 f11 s11 ORD'
      go_wp2_with fail
      refine (pjoin O11.out G11.out (fun k h1 h2 => by have oo := ORD.out; omega) (by have := BL.out; omega) (HL.out.nw N11.out)).mono ?_
      rintro e w12 ⟨rfl, r12, f12⟩
      rw [HPE.out.2.2.2] at r12
      have F12 : Hid (Fr (fun k => w7.heap.size ≤ k ∧ k < w8.heap.size) w11 w12) := f12
      have O12 : Hid (Rp w12 (fun k => (w7.heap.size ≤ k ∧ k < w8.heap.size) ∨ (w11.heap.size ≤ k ∧ k < w12.heap.size)) bo n E Tw) := r12
      have s12 : w11.heap.size ≤ w12.heap.size := f12.size
      have N12 : Hid (Nw w w12) := N11.out.trans f12 (fun k hk q => by have oo := ORD.out; have := N1.out.size; omega)
      have A12 : Hid (Rp w12 (fun k => w1.heap.size ≤ k ∧ k < w2.heap.size) bw n E Tw) := A11.out.fr F12.out (fun k h1 h2 => by have oo := ORD.out; omega)
      have Y12 : Hid (Rp w12 (fun k => w3.heap.size ≤ k ∧ k < w4.heap.size) by9 a1 a2 Ty) := Y11.out.fr F12.out (fun k h1 h2 => by have oo := ORD.out; omega)
      have Z12 : Hid (Rp w12 (fun k => w4.heap.size ≤ k ∧ k < w5.heap.size) bz a2 E Tz) := Z11.out.fr F12.out (fun k h1 h2 => by have oo := ORD.out; omega)
      have L12 : Hid (Rp w12 (fun k => ((w5.heap.size ≤ k ∧ k < w6.heap.size) ∨ (w8.heap.size ≤ k ∧ k < w9.heap.size)) ∨ (w9.heap.size ≤ k ∧ k < w10.heap.size)) bl n E Tw) := L11.out.fr F12.out (fun k h1 h2 => by have oo := ORD.out; omega)
      have ORD' := ORD.out
      have ORD : Hid (w1.heap.size ≤ w2.heap.size ∧ w2.heap.size ≤ w3.heap.size ∧ w3.heap.size ≤ w4.heap.size ∧ w4.heap.size ≤ w5.heap.size ∧ w5.heap.size ≤ w6.heap.size ∧ w6.heap.size ≤ w7.heap.size ∧ w7.heap.size ≤ w8.heap.size ∧ w8.heap.size ≤ w9.heap.size ∧ w9.heap.size ≤ w10.heap.size ∧ w10.heap.size ≤ w11.heap.size ∧ w11.heap.size ≤ w12.heap.size) := by
        refine ⟨?_, ?_, ?_, ?_, ?_, ?_, ?_, ?_, ?_, ?_, ?_⟩ <;> omega
      clear r12 f12 s12 ORD'
      have P32 : Hid (∀ x ∈ hss Tw, x.length = 32) := fun x hx => by
        obtain ⟨_, _, r⟩ := A12.out.len
        simp only [hss, List.mem_map] at hx
        obtain ⟨t, ht, rfl⟩ := hx
        exact (r.ok t ht).h32
      have P32y : Hid (∀ x ∈ hss Ty, x.length = 32) := fun x hx => by
        obtain ⟨_, _, r⟩ := Y12.out.len
        simp only [hss, List.mem_map] at hx
        obtain ⟨t, ht, rfl⟩ := hx
        exact (r.ok t ht).h32
      have P32z : Hid (∀ x ∈ hss Tz, x.length = 32) := fun x hx => by
        obtain ⟨_, _, r⟩ := Z12.out.len
        simp only [hss, List.mem_map] at hx
        obtain ⟨t, ht, rfl⟩ := hx
        exact (r.ok t ht).h32
      obtain ⟨tl, htl⟩ : ∃ z, z = (hss Tw).length := ⟨_, rfl⟩
      have HTL : Hid ((hss Tw).length = tl) := htl.symm
      have HTC : Hid ((hss Tw).length = (cov n E).length) := by show _ = _; rw [← CV.out]; simp [hss, ats]
      have htl128 : tl ≤ 128 := by have := BL.out; rw [htl]; simp [hss]; omega
      clear htl
      go_wp2_with fail
      refine (phashes A12.out (by have := BL.out; omega)).mono ?_
      rintro e w13 ⟨_, rfl, hh, ⟨gw, cgw, rfl, ggw1, ggw2⟩, m13⟩
      rw [HTL.out] at hh ⊢
      have Hgw : Hid (Hss w13 (.slice (some ⟨gw, 0, none⟩) tl cgw) (hss Tw)) := hh
      have Ggw : Hid (w12.heap.size ≤ gw ∧ gw < w13.heap.size) := ⟨ggw1, ggw2⟩
      clear hh ggw1 ggw2
      have D13 : Hid (Nw w12 w13) := m13
      have N13 : Hid (Nw w w13) := N12.out.tr m13
      clear m13
      go_wp2_with fail
      refine (pspan (A12.out.nw D13.out)).mono ?_
      rintro e w14 ⟨rfl, m14⟩
      have D14 : Hid (Nw w13 w14) := m14
      have N14 : Hid (Nw w w14) := N13.out.tr m14
      clear m14
      go_wp2_with fail
      refine (pload n E (by have := HE.out; omega) (by have := HE.out; have := HST.out; omega) _ (hss Tw) P32.out (by have q := Hgw.out.nw P32.out D14.out; exact q) HTC.out (HT.out.nw N14.out) (HL.out.nw N14.out)).mono ?_
      rintro e w15 ⟨bd, rfl, r15, m15⟩
      rw [← CV.out, zpt_self] at r15
      have B15 : Hid (Rp w15 (fun k => w14.heap.size ≤ k ∧ k < w15.heap.size) bd n E Tw) := r15
      clear r15
      have D15 : Hid (Nw w14 w15) := m15
      have N15 : Hid (Nw w w15) := N14.out.tr m15
      clear m15
      go_wp2_with fail
      refine (pspan (A12.out.nw ((D13.out.tr D14.out).tr D15.out))).mono ?_
      rintro e w16 ⟨rfl, m16⟩
      have D16 : Hid (Nw w15 w16) := m16
      have N16 : Hid (Nw w w16) := N15.out.tr m16
      clear m16
      go_wp2_with fail
      refine (pspan (L12.out.nw (((D13.out.tr D14.out).tr D15.out).tr D16.out))).mono ?_
      rintro e w17 ⟨rfl, m17⟩
      have D17 : Hid (Nw w16 w17) := m17
      have N17 : Hid (Nw w w17) := N16.out.tr m17
      clear m17
      go_wp2_with fail
      refine (pspan (A12.out.nw ((((D13.out.tr D14.out).tr D15.out).tr D16.out).tr D17.out))).mono ?_
      rintro e w18 ⟨rfl, m18⟩
      have D18 : Hid (Nw w17 w18) := m18
      have N18 : Hid (Nw w w18) := N17.out.tr m18
      clear m18
      go_wp2_with fail
      refine (pspan (O12.out.nw (((((D13.out.tr D14.out).tr D15.out).tr D16.out).tr D17.out).tr D18.out))).mono ?_
      rintro e w19 ⟨rfl, m19⟩
      have D19 : Hid (Nw w18 w19) := m19
      have N19 : Hid (Nw w w19) := N18.out.tr m19
      clear m19
      go_wp2_with fail
      refine (pspan (A12.out.nw ((((((D13.out.tr D14.out).tr D15.out).tr D16.out).tr D17.out).tr D18.out).tr D19.out))).mono ?_
      rintro e w20 ⟨rfl, m20⟩
      have D20 : Hid (Nw w19 w20) := m20
      have N20 : Hid (Nw w w20) := N19.out.tr m20
      clear m20
      go_wp2_with fail
      refine (phashes (L12.out.nw (((((((D13.out.tr D14.out).tr D15.out).tr D16.out).tr D17.out).tr D18.out).tr D19.out).tr D20.out)) (by have := BL.out; omega)).mono ?_
      rintro e w21 ⟨_, rfl, hh, ⟨ga, cga, rfl, gga1, gga2⟩, m21⟩
      rw [HTL.out] at hh ⊢
      have Hga : Hid (Hss w21 (.slice (some ⟨ga, 0, none⟩) tl cga) (hss Tw)) := hh
      have Gga : Hid (w20.heap.size ≤ ga ∧ ga < w21.heap.size) := ⟨gga1, gga2⟩
      clear hh gga1 gga2
      have D21 : Hid (Nw w20 w21) := m21
      have N21 : Hid (Nw w w21) := N20.out.tr m21
      clear m21
      go_wp2_with fail
      refine (sameh_yes _ _ (hss Tw) P32.out w21 Hga.out (Hgw.out.nw P32.out (((((((D14.out.tr D15.out).tr D16.out).tr D17.out).tr D18.out).tr D19.out).tr D20.out).tr D21.out)) (by rw [HTL.out]; omega)).mono ?_
      rintro e w22 ⟨rfl, m22⟩
      have D22 : Hid (Nw w21 w22) := m22
      have N22 : Hid (Nw w w22) := N21.out.tr m22
      clear m22
      go_wp2_with fail
      refine (phashes (O12.out.nw (((((((((D13.out.tr D14.out).tr D15.out).tr D16.out).tr D17.out).tr D18.out).tr D19.out).tr D20.out).tr D21.out).tr D22.out)) (by have := BL.out; omega)).mono ?_
      rintro e w23 ⟨_, rfl, hh, ⟨gb, cgb, rfl, ggb1, ggb2⟩, m23⟩
      rw [HTL.out] at hh ⊢
      have Hgb : Hid (Hss w23 (.slice (some ⟨gb, 0, none⟩) tl cgb) (hss Tw)) := hh
      have Ggb : Hid (w22.heap.size ≤ gb ∧ gb < w23.heap.size) := ⟨ggb1, ggb2⟩
      clear hh ggb1 ggb2
      have D23 : Hid (Nw w22 w23) := m23
      have N23 : Hid (Nw w w23) := N22.out.tr m23
      clear m23
      go_wp2_with fail
      refine (sameh_yes _ _ (hss Tw) P32.out w23 Hgb.out (Hgw.out.nw P32.out (((((((((D14.out.tr D15.out).tr D16.out).tr D17.out).tr D18.out).tr D19.out).tr D20.out).tr D21.out).tr D22.out).tr D23.out)) (by rw [HTL.out]; omega)).mono ?_
      rintro e w24 ⟨rfl, m24⟩
      have D24 : Hid (Nw w23 w24) := m24
      have N24 : Hid (Nw w w24) := N23.out.tr m24
      clear m24
      go_wp2_with fail
      refine (phashes (B15.out.nw ((((((((D16.out.tr D17.out).tr D18.out).tr D19.out).tr D20.out).tr D21.out).tr D22.out).tr D23.out).tr D24.out)) (by have := BL.out; omega)).mono ?_
      rintro e w25 ⟨_, rfl, hh, ⟨gc, cgc, rfl, ggc1, ggc2⟩, m25⟩
      rw [HTL.out] at hh ⊢
      have Hgc : Hid (Hss w25 (.slice (some ⟨gc, 0, none⟩) tl cgc) (hss Tw)) := hh
      have Ggc : Hid (w24.heap.size ≤ gc ∧ gc < w25.heap.size) := ⟨ggc1, ggc2⟩
      clear hh ggc1 ggc2
      have D25 : Hid (Nw w24 w25) := m25
      have N25 : Hid (Nw w w25) := N24.out.tr m25
      clear m25
      go_wp2_with fail
      refine (sameh_yes _ _ (hss Tw) P32.out w25 Hgc.out (Hgw.out.nw P32.out (((((((((((D14.out.tr D15.out).tr D16.out).tr D17.out).tr D18.out).tr D19.out).tr D20.out).tr D21.out).tr D22.out).tr D23.out).tr D24.out).tr D25.out)) (by rw [HTL.out]; omega)).mono ?_
      rintro e w26 ⟨rfl, m26⟩
      have D26 : Hid (Nw w25 w26) := m26
      have N26 : Hid (Nw w w26) := N25.out.tr m26
      clear m26
      go_wp2_with (refine wpl_cut_lh rfl (.tmp 192) (.tmp 193) (.tmp 194) rfl ad m cap i k .i64 .i64 rfl rfl rfl HIK.out.1 HIK.out.2.2.1 ?_)
      refine (QY'.out _ N26.out).mono ?_
      rintro e w27 ⟨bs, rfl, r15, m27⟩
      have S27 : Hid (Rp w27 (fun k => w26.heap.size ≤ k ∧ k < w27.heap.size) bs a1 a2 Ty) := r15
      clear r15
      have D27 : Hid (Nw w26 w27) := m27
      have N27 : Hid (Nw w w27) := N26.out.tr m27
      clear m27
      go_wp2_with fail
      refine (phashes (Y12.out.nw ((((((((((((((D13.out.tr D14.out).tr D15.out).tr D16.out).tr D17.out).tr D18.out).tr D19.out).tr D20.out).tr D21.out).tr D22.out).tr D23.out).tr D24.out).tr D25.out).tr D26.out).tr D27.out)) (by have := BL.out; omega)).mono ?_
      rintro e w28 ⟨_, rfl, hh, ⟨gd, cgd, rfl, ggd1, ggd2⟩, m28⟩
      have Hgd : Hid (Hss w28 (.slice (some ⟨gd, 0, none⟩) (hss Ty).length cgd) (hss Ty)) := hh
      have Ggd : Hid (w27.heap.size ≤ gd ∧ gd < w28.heap.size) := ⟨ggd1, ggd2⟩
      clear hh ggd1 ggd2
      have D28 : Hid (Nw w27 w28) := m28
      have N28 : Hid (Nw w w28) := N27.out.tr m28
      clear m28
      go_wp2_with fail
      refine (phashes (S27.out.nw D28.out) (by have := BL.out; omega)).mono ?_
      rintro e w29 ⟨_, rfl, hh, ⟨ge, cge, rfl, gge1, gge2⟩, m29⟩
      have Hge : Hid (Hss w29 (.slice (some ⟨ge, 0, none⟩) (hss Ty).length cge) (hss Ty)) := hh
      have Gge : Hid (w28.heap.size ≤ ge ∧ ge < w29.heap.size) := ⟨gge1, gge2⟩
      clear hh gge1 gge2
      have D29 : Hid (Nw w28 w29) := m29
      have N29 : Hid (Nw w w29) := N28.out.tr m29
      clear m29
      go_wp2_with fail
      refine (sameh_yes _ _ (hss Ty) P32y.out w29 (Hgd.out.nw P32y.out D29.out) Hge.out (by have := BL.out; simp [hss]; omega)).mono ?_
      rintro e w30 ⟨rfl, m30⟩
      have D30 : Hid (Nw w29 w30) := m30
      have N30 : Hid (Nw w w30) := N29.out.tr m30
      clear m30
      go_wp2_with fail
      refine (pspan (Y12.out.nw (((((((((((((((((D13.out.tr D14.out).tr D15.out).tr D16.out).tr D17.out).tr D18.out).tr D19.out).tr D20.out).tr D21.out).tr D22.out).tr D23.out).tr D24.out).tr D25.out).tr D26.out).tr D27.out).tr D28.out).tr D29.out).tr D30.out))).mono ?_
      rintro e w31 ⟨rfl, m31⟩
      have D31 : Hid (Nw w30 w31) := m31
      have N31 : Hid (Nw w w31) := N30.out.tr m31
      clear m31
      go_wp2_with fail
      refine (pspan (S27.out.nw (((D28.out.tr D29.out).tr D30.out).tr D31.out))).mono ?_
      rintro e w32 ⟨rfl, m32⟩
      have D32 : Hid (Nw w31 w32) := m32
      have N32 : Hid (Nw w w32) := N31.out.tr m32
      clear m32
      have b9 : Hid (∀ W : World, (Instr.build 24 #[(0, .int .u8 9)]).run Tryd.prog W = .ok (.agg (hbs (h1 9))) W) := build_h1 9 9 rfl
      obtain ⟨A9, h9⟩ : ∃ A, A = h1 9 := ⟨_, rfl⟩
      have L9 : Hid (A9.length = 32) := by rw [h9]; exact h1_len _
      rw [← h9] at b9
      clear h9
      obtain ⟨Tn, hTn⟩ : ∃ z, z = psh Tw ⟨0, E, A9⟩ := ⟨_, rfl⟩
      have btn : Tn.length ≤ 1000000 := by rw [hTn]; have := psh_len Tw ⟨0, E, A9⟩; have := BL.out; omega
      have BTN : Hid (Tn.length ≤ 1000000) := btn
      have QP : Hid (∀ V P b, Nw w V → Rp V P b n E Tw → Calls Tryd.prog 9 #[.pointer (some ⟨b, 0, none⟩), .agg (hbs A9)] V fun e w' => e = .returned .nilIface ∧ Rp w' (fun k => P k ∨ (V.heap.size ≤ k ∧ k < w'.heap.size)) b n (E + 1) Tn ∧ Fr P V w') := fun V P b nV r => by rw [hTn]; exact pappend r (by have := HE.out; have := HST.out; omega) A9 L9.out (by have := BL.out; omega) (HL.out.nw nV)
      clear hTn btn
      have OR2 : Hid (w12.heap.size ≤ w13.heap.size ∧ w13.heap.size ≤ w14.heap.size ∧ w14.heap.size ≤ w15.heap.size ∧ w15.heap.size ≤ w32.heap.size) := ⟨D13.out.size, D14.out.size, D15.out.size, (((((((((((((((((D16.out.tr D17.out).tr D18.out).tr D19.out).tr D20.out).tr D21.out).tr D22.out).tr D23.out).tr D24.out).tr D25.out).tr D26.out).tr D27.out).tr D28.out).tr D29.out).tr D30.out).tr D31.out).tr D32.out)).size⟩
      go_wp2_with (refine wpl_build rfl 24 (.const (.int .u8 9)) rfl (.int .u8 9) rfl (hbs A9) b9.out ?_)
      refine (QP.out _ _ _ N32.out (L12.out.nw (((((((((((((((((((D13.out.tr D14.out).tr D15.out).tr D16.out).tr D17.out).tr D18.out).tr D19.out).tr D20.out).tr D21.out).tr D22.out).tr D23.out).tr D24.out).tr D25.out).tr D26.out).tr D27.out).tr D28.out).tr D29.out).tr D30.out).tr D31.out).tr D32.out))).mono ?_
      rintro e w33 ⟨rfl, rl, fl9⟩
      have FA : Hid (Fr (fun k => ((w5.heap.size ≤ k ∧ k < w6.heap.size) ∨ (w8.heap.size ≤ k ∧ k < w9.heap.size)) ∨ (w9.heap.size ≤ k ∧ k < w10.heap.size)) w32 w33) := fl9
      have Ll : Hid (Rp w33 (fun k => (((w5.heap.size ≤ k ∧ k < w6.heap.size) ∨ (w8.heap.size ≤ k ∧ k < w9.heap.size)) ∨ (w9.heap.size ≤ k ∧ k < w10.heap.size)) ∨ (w32.heap.size ≤ k ∧ k < w33.heap.size)) bl n (E + 1) Tn) := rl
      have Na : Hid (Nw w w33) := N32.out.trans fl9 (fun k hk q => by have oo := ORD.out; have := N1.out.size; omega)
      have Aa : Hid (Rp w33 (fun k => w1.heap.size ≤ k ∧ k < w2.heap.size) bw n E Tw) := (A12.out.nw (((((((((((((((((((D13.out.tr D14.out).tr D15.out).tr D16.out).tr D17.out).tr D18.out).tr D19.out).tr D20.out).tr D21.out).tr D22.out).tr D23.out).tr D24.out).tr D25.out).tr D26.out).tr D27.out).tr D28.out).tr D29.out).tr D30.out).tr D31.out).tr D32.out)).fr FA.out (fun k h1 h2 => by have oo := ORD.out; omega)
      have Za : Hid (Rp w33 (fun k => w4.heap.size ≤ k ∧ k < w5.heap.size) bz a2 E Tz) := (Z12.out.nw (((((((((((((((((((D13.out.tr D14.out).tr D15.out).tr D16.out).tr D17.out).tr D18.out).tr D19.out).tr D20.out).tr D21.out).tr D22.out).tr D23.out).tr D24.out).tr D25.out).tr D26.out).tr D27.out).tr D28.out).tr D29.out).tr D30.out).tr D31.out).tr D32.out)).fr FA.out (fun k h1 h2 => by have oo := ORD.out; omega)
      have Ba : Hid (Rp w33 (fun k => w14.heap.size ≤ k ∧ k < w15.heap.size) bd n E Tw) := (B15.out.nw ((((((((((((((((D16.out.tr D17.out).tr D18.out).tr D19.out).tr D20.out).tr D21.out).tr D22.out).tr D23.out).tr D24.out).tr D25.out).tr D26.out).tr D27.out).tr D28.out).tr D29.out).tr D30.out).tr D31.out).tr D32.out)).fr FA.out (fun k h1 h2 => by have oo := ORD.out; have o2 := OR2.out; omega)
      have Wa : Hid (Hss w33 (.slice (some ⟨gw, 0, none⟩) tl cgw) (hss Tw)) := (Hgw.out.nw P32.out ((((((((((((((((((D14.out.tr D15.out).tr D16.out).tr D17.out).tr D18.out).tr D19.out).tr D20.out).tr D21.out).tr D22.out).tr D23.out).tr D24.out).tr D25.out).tr D26.out).tr D27.out).tr D28.out).tr D29.out).tr D30.out).tr D31.out).tr D32.out)).fr P32.out FA.out (fun q => by have oo := ORD.out; have o2 := OR2.out; have o3 := Ggw.out; omega)
      have OR3 : Hid (w32.heap.size ≤ w33.heap.size) := fl9.size
      clear rl fl9
      go_wp2_with (refine wpl_buildg rfl 24 (.const (.int .u8 9)) rfl (.int .u8 9) rfl (hbs A9) b9.out ?_)
      refine (QP.out _ _ _ Na.out Ba.out).mono ?_
      rintro e wF ⟨rfl, rl, fl9⟩
      have FB : Hid (Fr (fun k => w14.heap.size ≤ k ∧ k < w15.heap.size) w33 wF) := fl9
      have Bf : Hid (Rp wF (fun k => (w14.heap.size ≤ k ∧ k < w15.heap.size) ∨ (w33.heap.size ≤ k ∧ k < wF.heap.size)) bd n (E + 1) Tn) := rl
      have NF : Hid (Nw w wF) := Na.out.trans fl9 (fun k hk q => by have oo := ORD.out; have o2 := OR2.out; have := N1.out.size; omega)
      have Af : Hid (Rp wF (fun k => w1.heap.size ≤ k ∧ k < w2.heap.size) bw n E Tw) := Aa.out.fr FB.out (fun k h1 h2 => by have oo := ORD.out; have o2 := OR2.out; omega)
      have Zf : Hid (Rp wF (fun k => w4.heap.size ≤ k ∧ k < w5.heap.size) bz a2 E Tz) := Za.out.fr FB.out (fun k h1 h2 => by have oo := ORD.out; have o2 := OR2.out; omega)
      have Lf : Hid (Rp wF (fun k => (((w5.heap.size ≤ k ∧ k < w6.heap.size) ∨ (w8.heap.size ≤ k ∧ k < w9.heap.size)) ∨ (w9.heap.size ≤ k ∧ k < w10.heap.size)) ∨ (w32.heap.size ≤ k ∧ k < w33.heap.size)) bl n (E + 1) Tn) := Ll.out.fr FB.out (fun k h1 h2 => by have oo := ORD.out; have o2 := OR2.out; omega)
      have Wf : Hid (Hss wF (.slice (some ⟨gw, 0, none⟩) tl cgw) (hss Tw)) := Wa.out.fr P32.out FB.out (fun q => by have oo := ORD.out; have o2 := OR2.out; have o3 := Ggw.out; omega)
      have P32n : Hid (∀ x ∈ hss Tn, x.length = 32) := fun x hx => by
        obtain ⟨_, _, r⟩ := Lf.out.len
        simp only [hss, List.mem_map] at hx
        obtain ⟨t, ht, rfl⟩ := hx
        exact (r.ok t ht).h32
      obtain ⟨tn, htn⟩ : ∃ z, z = (hss Tn).length := ⟨_, rfl⟩
      have HTN : Hid ((hss Tn).length = tn) := htn.symm
      have HTB : Hid (tn ≤ 1000000) := by show tn ≤ 1000000; rw [htn]; have := BTN.out; simp [hss]; omega
      obtain ⟨tz, htz⟩ : ∃ z, z = (hss Tz).length := ⟨_, rfl⟩
      have HTZ : Hid ((hss Tz).length = tz) := htz.symm
      have HZB : Hid (tz ≤ 128) := by show tz ≤ 128; rw [htz]; have := BL.out; simp [hss]; omega
      clear rl fl9 htn htz
      go_upto_region 31 with fail
      have nb : Nw wF wF.drew := (Fr.refl _ _).drew
      refine wp_region_held_drew (S := fun _ => True) (by kernel_rfl) trivial ?_
      intro hS0
      refine wpAnyH_take (i := 0) (oi := Oper.mk (some 224) _ _ _ _ _) (v := .pointer (some ⟨bl, 0, none⟩)) rfl (by kernel_rfl) (by kernel_rfl) (by kernel_rfl) (fun _ _ _ h => h) (Or.inl ⟨by kernel_rfl, by intro w hw; go_simp⟩) hS0 ?_
      try simp only [Act.put, List.setIfInBounds_toArray, List.set_cons_zero, List.set_cons_succ]
      refine wpAnyH_take (i := 2) (oi := Oper.mk (some 226) _ _ _ _ _) (v := .pointer (some ⟨bd, 0, none⟩)) rfl (by kernel_rfl) (by kernel_rfl) (by kernel_rfl) (fun _ _ _ h => h) (Or.inl ⟨by kernel_rfl, by intro w hw; go_simp⟩) hS0 ?_
      try simp only [Act.put, List.setIfInBounds_toArray, List.set_cons_zero, List.set_cons_succ]
      refine wpAnyH_ready (rs := [1]) (by kernel_rfl) (by simp) ?_
      refine AllReadyH.cons rfl (fun K' hK => ?_) AllReadyH.nil
      go_simp
      go_wp2_with (go_at_call 14; refine (phashes (Lf.out.nw nb) (BTN.out)).mono ?_; rintro eu1 u1 ⟨_, rfl, hhq1, ⟨q1, cq1, rfl, _, _⟩, mu1⟩)
      have nu1 : Nw wF u1 := nb.tr mu1
      rw [HTN.out] at hhq1 ⊢
      refine hK.out _ _ ((trivial)) (fun hS0 => ?_)
      try simp only [Act.put, List.setIfInBounds_toArray, List.set_cons_zero, List.set_cons_succ]
      refine wpAnyH_ready (rs := [3]) (by kernel_rfl) (by simp) ?_
      refine AllReadyH.cons rfl (fun K' hK => ?_) AllReadyH.nil
      go_simp
      go_wp2_with (go_at_call 14; refine (phashes (Bf.out.nw nu1) (BTN.out)).mono ?_; rintro eu2 u2 ⟨_, rfl, hhq2, ⟨q2, cq2, rfl, _, _⟩, mu2⟩)
      have nu2 : Nw wF u2 := nu1.tr mu2
      rw [HTN.out] at hhq2 ⊢
      refine hK.out _ _ ((trivial)) (fun hS0 => ?_)
      try simp only [Act.put, List.setIfInBounds_toArray, List.set_cons_zero, List.set_cons_succ]
      refine wpAnyH_ready (rs := [4]) (by kernel_rfl) (by simp) ?_
      refine AllReadyH.cons rfl (fun K' hK => ?_) AllReadyH.nil
      go_simp
      go_wp2_with (go_at_call 22; refine (sameh_yes _ _ (hss Tn) P32n.out _ (hhq1.nw P32n.out mu2) hhq2 (by rw [HTN.out]; have := HTB.out; omega)).mono ?_; rintro eu3 u3 ⟨rfl, mu3⟩)
      have nu3 : Nw wF u3 := nu2.tr mu3
      refine hK.out _ _ ((trivial)) (fun hS0 => ?_)
      try simp only [Act.put, List.setIfInBounds_toArray, List.set_cons_zero, List.set_cons_succ]
      refine wpAnyH_take (i := 5) (oi := Oper.mk (some 229) _ _ _ _ _) (v := .bool true) rfl (by kernel_rfl) (by kernel_rfl) (by kernel_rfl) (fun _ _ _ h => h) (Or.inl ⟨by kernel_rfl, by intro w hw; go_simp⟩) hS0 ?_
      try simp only [Act.put, List.setIfInBounds_toArray, List.set_cons_zero, List.set_cons_succ]
      refine wpAnyH_take (i := 6) (oi := Oper.mk (some 230) _ _ _ _ _) (v := .pointer (some ⟨bw, 0, none⟩)) rfl (by kernel_rfl) (by kernel_rfl) (by kernel_rfl) (fun _ _ _ h => h) (Or.inl ⟨by kernel_rfl, by intro w hw; go_simp⟩) hS0 ?_
      try simp only [Act.put, List.setIfInBounds_toArray, List.set_cons_zero, List.set_cons_succ]
      refine wpAnyH_take (i := 8) (oi := Oper.mk (some 232) _ _ _ _ _) (v := .slice (some ⟨gw, 0, none⟩) tl cgw) rfl (by kernel_rfl) (by kernel_rfl) (by kernel_rfl) (fun _ _ _ h => h) (Or.inl ⟨by kernel_rfl, by intro w hw; go_simp⟩) hS0 ?_
      try simp only [Act.put, List.setIfInBounds_toArray, List.set_cons_zero, List.set_cons_succ]
      refine wpAnyH_ready (rs := [7]) (by kernel_rfl) (by simp) ?_
      refine AllReadyH.cons rfl (fun K' hK => ?_) AllReadyH.nil
      go_simp
      go_wp2_with (go_at_call 14; refine (phashes (Af.out.nw nu3) (by have := BL.out; omega)).mono ?_; rintro eu4 u4 ⟨_, rfl, hhq3, ⟨q3, cq3, rfl, _, _⟩, mu4⟩)
      have nu4 : Nw wF u4 := nu3.tr mu4
      rw [HTL.out] at hhq3 ⊢
      refine hK.out _ _ ((trivial)) (fun hS0 => ?_)
      try simp only [Act.put, List.setIfInBounds_toArray, List.set_cons_zero, List.set_cons_succ]
      refine wpAnyH_ready (rs := [9]) (by kernel_rfl) (by simp) ?_
      refine AllReadyH.cons rfl (fun K' hK => ?_) AllReadyH.nil
      go_simp
      go_wp2_with (go_at_call 22; refine (sameh_yes _ _ (hss Tw) P32.out _ hhq3 (Wf.out.nw P32.out nu4) (by rw [HTL.out]; omega)).mono ?_; rintro eu5 u5 ⟨rfl, mu5⟩)
      have nu5 : Nw wF u5 := nu4.tr mu5
      refine hK.out _ _ ((trivial)) (fun hS0 => ?_)
      try simp only [Act.put, List.setIfInBounds_toArray, List.set_cons_zero, List.set_cons_succ]
      refine wpAnyH_take (i := 10) (oi := Oper.mk (some 234) _ _ _ _ _) (v := .bool true) rfl (by kernel_rfl) (by kernel_rfl) (by kernel_rfl) (fun _ _ _ h => h) (Or.inl ⟨by kernel_rfl, by intro w hw; go_simp⟩) hS0 ?_
      try simp only [Act.put, List.setIfInBounds_toArray, List.set_cons_zero, List.set_cons_succ]
      refine wpAnyH_take (i := 11) (oi := Oper.mk (some 235) _ _ _ _ _) (v := .bool true) rfl (by kernel_rfl) (by kernel_rfl) (by kernel_rfl) (fun _ _ _ h => h) (Or.inl ⟨by kernel_rfl, by intro w hw; go_simp⟩) hS0 ?_
      try simp only [Act.put, List.setIfInBounds_toArray, List.set_cons_zero, List.set_cons_succ]
      refine wpAnyH_take (i := 12) (oi := Oper.mk (some 236) _ _ _ _ _) (v := .pointer (some ⟨bz, 0, none⟩)) rfl (by kernel_rfl) (by kernel_rfl) (by kernel_rfl) (fun _ _ _ h => h) (Or.inl ⟨by kernel_rfl, by intro w hw; go_simp⟩) hS0 ?_
      try simp only [Act.put, List.setIfInBounds_toArray, List.set_cons_zero, List.set_cons_succ]
      refine wpAnyH_take (i := 14) (oi := Oper.mk (some 238) _ _ _ _ _) (v := .int .u64 (n : Int)) rfl (by kernel_rfl) (by kernel_rfl) (by kernel_rfl) (fun _ _ _ h => h) (Or.inl ⟨by kernel_rfl, by intro w hw; go_simp⟩) hS0 ?_
      try simp only [Act.put, List.setIfInBounds_toArray, List.set_cons_zero, List.set_cons_succ]
      refine wpAnyH_take (i := 15) (oi := Oper.mk (some 239) _ _ _ _ _) (v := .int .i64 (k : Int)) rfl (by kernel_rfl) (by kernel_rfl) (by kernel_rfl) (fun _ _ _ h => h) (Or.inl ⟨by kernel_rfl, by intro w hw; go_simp⟩) hS0 ?_
      try simp only [Act.put, List.setIfInBounds_toArray, List.set_cons_zero, List.set_cons_succ]
      refine wpAnyH_take (i := 16) (oi := Oper.mk (some 240) _ _ _ _ _) (v := .int .u64 (k : Int)) rfl (by kernel_rfl) (by kernel_rfl) (by kernel_rfl) (fun _ _ _ h => h) (Or.inl ⟨by kernel_rfl, by intro w hw; have z1 := e1; go_simp⟩) hS0 ?_
      try simp only [Act.put, List.setIfInBounds_toArray, List.set_cons_zero, List.set_cons_succ]
      refine wpAnyH_take (i := 17) (oi := Oper.mk (some 241) _ _ _ _ _) (v := .int .u64 (a2 : Int)) rfl (by kernel_rfl) (by kernel_rfl) (by kernel_rfl) (fun _ _ _ h => h) (Or.inl ⟨by kernel_rfl, by intro w hw; have z1 := e4; go_simp⟩) hS0 ?_
      try simp only [Act.put, List.setIfInBounds_toArray, List.set_cons_zero, List.set_cons_succ]
      refine wpAnyH_take (i := 18) (oi := Oper.mk (some 242) _ _ _ _ _) (v := .slice ad m cap) rfl (by kernel_rfl) (by kernel_rfl) (by kernel_rfl) (fun _ _ _ h => h) (Or.inl ⟨by kernel_rfl, by intro w hw; go_simp⟩) hS0 ?_
      try simp only [Act.put, List.setIfInBounds_toArray, List.set_cons_zero, List.set_cons_succ]
      refine wpAnyH_take (i := 19) (oi := Oper.mk (some 243) _ _ _ _ _) (v := .int .i64 (k : Int)) rfl (by kernel_rfl) (by kernel_rfl) (by kernel_rfl) (fun _ _ _ h => h) (Or.inl ⟨by kernel_rfl, by intro w hw; go_simp⟩) hS0 ?_
      try simp only [Act.put, List.setIfInBounds_toArray, List.set_cons_zero, List.set_cons_succ]
      refine wpAnyH_take (i := 20) (oi := Oper.mk (some 244) _ _ _ _ _) (v := .slice (cat9 ad cap k) (m - k) (cap - k)) rfl (by kernel_rfl) (by kernel_rfl) (by kernel_rfl) (fun _ _ _ h => h) (yields_cut_l (by kernel_rfl) (.tmp 242) (.tmp 243) rfl ad m cap k .i64 (by kernel_rfl) (by kernel_rfl) HIK.out.2.1 HIK.out.2.2.2) hS0 ?_
      try simp only [Act.put, List.setIfInBounds_toArray, List.set_cons_zero, List.set_cons_succ]
      refine wpAnyH_ready (rs := [13]) (by kernel_rfl) (by simp) ?_
      refine AllReadyH.cons rfl (fun K' hK => ?_) AllReadyH.nil
      go_simp
      go_wp2_with (go_at_call 14; refine (phashes (Zf.out.nw nu5) (by have := BL.out; omega)).mono ?_; rintro eu6 u6 ⟨_, rfl, hhq4, ⟨q4, cq4, rfl, _, _⟩, mu6⟩)
      have nu6 : Nw wF u6 := nu5.tr mu6
      rw [HTZ.out] at hhq4 ⊢
      refine hK.out _ _ ((trivial)) (fun hS0 => ?_)
      try simp only [Act.put, List.setIfInBounds_toArray, List.set_cons_zero, List.set_cons_succ]
      refine wpAnyH_ready (rs := [21]) (by kernel_rfl) (by simp) ?_
      refine AllReadyH.cons rfl (fun K' hK => ?_) AllReadyH.nil
      go_simp
      go_wp2_with (go_at_call 20; refine (QZ'.out _ (NF.out.tr nu6)).mono ?_; rintro eu7 u7 ⟨bt, rfl, rt, mu7⟩)
      have nu7 : Nw wF u7 := nu6.tr mu7
      refine hK.out _ _ ((trivial)) (fun hS0 => ?_)
      try simp only [Act.put, List.setIfInBounds_toArray, List.set_cons_zero, List.set_cons_succ]
      refine wpAnyH_ready (rs := [22]) (by kernel_rfl) (by simp) ?_
      refine AllReadyH.cons rfl (fun K' hK => ?_) AllReadyH.nil
      go_simp
      go_wp2_with (go_at_call 14; refine (phashes rt (by have := BL.out; omega)).mono ?_; rintro eu8 u8 ⟨_, rfl, hhq5, ⟨q5, cq5, rfl, _, _⟩, mu8⟩)
      have nu8 : Nw wF u8 := nu7.tr mu8
      rw [HTZ.out] at hhq5 ⊢
      refine hK.out _ _ ((trivial)) (fun hS0 => ?_)
      try simp only [Act.put, List.setIfInBounds_toArray, List.set_cons_zero, List.set_cons_succ]
      refine wpAnyH_ready (rs := [23]) (by kernel_rfl) (by simp) ?_
      refine AllReadyH.cons rfl (fun K' hK => ?_) AllReadyH.nil
      go_simp
      go_wp2_with (go_at_call 22; refine (sameh_yes _ _ (hss Tz) P32z.out _ (hhq4.nw P32z.out (mu7.tr mu8)) hhq5 (by rw [HTZ.out]; have := HZB.out; omega)).mono ?_; rintro eu9 u9 ⟨rfl, mu9⟩)
      have nu9 : Nw wF u9 := nu8.tr mu9
      refine hK.out _ _ ((trivial)) (fun hS0 => ?_)
      try simp only [Act.put, List.setIfInBounds_toArray, List.set_cons_zero, List.set_cons_succ]
      refine wpAnyH_take (i := 24) (oi := Oper.mk (some 248) _ _ _ _ _) (v := .bool true) rfl (by kernel_rfl) (by kernel_rfl) (by kernel_rfl) (fun _ _ _ h => h) (Or.inl ⟨by kernel_rfl, by intro w hw; go_simp⟩) hS0 ?_
      try simp only [Act.put, List.setIfInBounds_toArray, List.set_cons_zero, List.set_cons_succ]
      refine wpAnyH_take (i := 25) (oi := Oper.mk (some 249) _ _ _ _ _) (v := .bool true) rfl (by kernel_rfl) (by kernel_rfl) (by kernel_rfl) (fun _ _ _ h => h) (Or.inl ⟨by kernel_rfl, by intro w hw; go_simp⟩) hS0 ?_
      try simp only [Act.put, List.setIfInBounds_toArray, List.set_cons_zero, List.set_cons_succ]
      refine wpAnyH_ready (rs := [26]) (by kernel_rfl) (by simp) ?_
      refine AllReadyH.cons rfl (fun K' hK => ?_) AllReadyH.nil
      go_simp
      go_wp2_with (go_at_call 15; refine (QA.out _ (NF.out.tr nu9)).mono ?_; rintro eu10 u10 ⟨rfl, mu10⟩)
      have nu10 : Nw wF u10 := nu9.tr mu10
      refine hK.out _ _ ((trivial)) (fun hS0 => ?_)
      try simp only [Act.put, List.setIfInBounds_toArray, List.set_cons_zero, List.set_cons_succ]
      refine wpAnyH_take (i := 27) (oi := Oper.mk (some 251) _ _ _ _ _) (v := .bool true) rfl (by kernel_rfl) (by kernel_rfl) (by kernel_rfl) (fun _ _ _ h => h) (Or.inl ⟨by kernel_rfl, by intro w hw; go_simp⟩) hS0 ?_
      try simp only [Act.put, List.setIfInBounds_toArray, List.set_cons_zero, List.set_cons_succ]
      refine wpAnyH_ready (rs := [28]) (by kernel_rfl) (by simp) ?_
      refine AllReadyH.cons rfl (fun K' hK => ?_) AllReadyH.nil
      go_simp
      refine hK.out _ _ ((trivial)) (fun hS0 => ?_)
      try simp only [Act.put, List.setIfInBounds_toArray, List.set_cons_zero, List.set_cons_succ]
      refine wpAnyH_done (by kernel_rfl) ?_ _
      go_wp2
      go_ret
      exact ⟨rfl, NF.out.tr nu10⟩
end Go.Proofs.YthbimomhbeoieaaDoor
