/- store: texts of one's own; which reads fail. -/
import Derived.Test.YtdckjmbellngiaaDoorFd
import Derived.Test.YtdckjmbellngiaaDoorCl
namespace Go.Proofs.YtdckjmbellngiaaDoor
open Go.RowKit Go.Maps
set_option linter.unusedVariables false
set_option linter.unusedSimpArgs false
theorem nwA (w : World) (o : Obj) : Nw w (w.alloc o) := (Fr.refl _ w).alloc o
theorem clone_any (s : ByteArray) (w : World) (hs : s.size ≤ 281474976710656) :
    Calls Tryd.prog 21 #[.string s] w fun e w' => e = .returned (.string s) ∧ Nw w w' := by
  have q := fun W => Tryd.stringslite_Clone s W hs
  go_enter Tryd.func21, Tryd.ntmps21
  go_wp2_with fail
  refine (q _).mono ?_
  rintro e w1 ⟨rfl, h1⟩
  have HN : Hid (Nw w w1) := Fr.ofBelow h1
  clear h1 q
  go_wp2
  go_ret
  exact ⟨rfl, HN.out⟩
theorem fpred_any (B5 B3 : Nat) (p : Option Addr) (n c : Nat) (rd : Int) (k : Nat) (zs : List Int) (w : World) (h5 : w.cell? ⟨B5, 0, none⟩ = some (.slice p n c)) (h3 : w.cell? ⟨B3, 0, none⟩ = some (.int .i64 rd)) (hz : Iz w p zs) (hn : zs.length = n) (hk : k < n) :
    Calls Tryd.prog 31 #[.int .i64 k, .pointer (some ⟨B5, 0, none⟩), .pointer (some ⟨B3, 0, none⟩)] w fun e w' => e = .returned (.bool (decide (rd ≤ zs.getD k 0))) ∧ Nw w w' := by
  obtain ⟨g, o, rfl, hc⟩ := hz k (by omega)
  have l5 := World.block_lt_of_cell? w _ h5
  have l3 := World.block_lt_of_cell? w _ h3
  have lg := World.block_lt_of_cell? w _ hc
  generalize zs.getD k 0 = x at hc ⊢
  have hki : (k : Int) < (n : Int) := by omega
  clear hz hn
  go_enter Tryd.func31, Tryd.ntmps31
  go_wp2_with fail
  go_quiet (fail)
  go_wp2
  go_ret
  exact ⟨rfl, (Fr.refl _ _).drewN _⟩
set_option maxRecDepth 100000 in
set_option maxHeartbeats 2000000 in
theorem search_any (B5 B3 : Nat) (p : Option Addr) (n c : Nat) (rd : Int) (zs : List Int) (w : World) (h5 : w.cell? ⟨B5, 0, none⟩ = some (.slice p n c)) (h3 : w.cell? ⟨B3, 0, none⟩ = some (.int .i64 rd)) (hz : Iz w p zs) (hn : zs.length = n) (hl : n ≤ 1099511627776) (hs : ∀ i j, i ≤ j → j < n → zs.getD i 0 ≤ zs.getD j 0) :
    Calls Tryd.prog 30 #[.int .i64 n, .func (.func 31) #[] #[.pointer (some ⟨B5, 0, none⟩), .pointer (some ⟨B3, 0, none⟩)]] w fun e w' => ∃ k : Nat, k ≤ n ∧ e = .returned (.int .i64 k) ∧ (∀ j, j < k → zs.getD j 0 < rd) ∧ (∀ j, k ≤ j → j < n → rd ≤ zs.getD j 0) ∧ Nw w w' := by
  have q := fun (W : World) (nw : Nw w W) (k : Nat) (hk : k < n) => fpred_any B5 B3 p n c rd k zs W (nw.cellOf h5) (nw.cellOf h3) (hz.nw nw) hn hk
  have HS : Hid (∀ i j, i ≤ j → j < n → zs.getD i 0 ≤ zs.getD j 0) := hs
  clear h5 h3 hz hn hs
  go_enter Tryd.func30, Tryd.ntmps30
  go_wp2
  go_loopw [5, 6] (fun x y wr => ∃ i j : Nat, i ≤ j ∧ j ≤ n ∧ x = .int .i64 i ∧ y = .int .i64 j ∧ (∀ t, t < i → zs.getD t 0 < rd) ∧ (∀ t, j ≤ t → t < n → rd ≤ zs.getD t 0) ∧ Nw w wr) (fun x y _ => ((intOf y) - (intOf x)).toNat)
  case atStart => exact ⟨0, n, by omega, by omega, rfl, rfl, fun t ht => by omega, fun t h1 h2 => by omega, Fr.refl _ _⟩
  case round =>
    obtain ⟨i, j, hij, hj, rfl, rfl, hlo, hhi, hnw⟩ := hrel
    have HLO : Hid (∀ t, t < i → zs.getD t 0 < rd) := hlo
    have HHI : Hid (∀ t, j ≤ t → t < n → rd ≤ zs.getD t 0) := hhi
    clear hlo hhi
    by_cases hlt : i < j
    · have hki : (i : Int) < (j : Int) := by omega
      obtain ⟨m, hm⟩ : ∃ m : Nat, m = (i + j) / 2 := ⟨_, rfl⟩
      have e1 : ((i : Int) + (j : Int)) / 2 = (m : Int) := by omega
      have hm1 : i ≤ m := by omega
      have hm2 : m < j := by omega
      have HM : Hid (m = (i + j) / 2) := hm
      clear hm
      have q3 := q wr hnw m (by omega)
      have hmn : m < n := by omega
      by_cases hp : rd ≤ zs.getD m 0
      · have HP : Hid (rd ≤ zs.getD m 0) := hp
        rw [decide_eq_true hp] at q3
        clear hp
        go_wp2_with fail
        refine q3.mono ?_
        rintro e w2 ⟨rfl, n2⟩
        have HN : Hid (Nw w w2) := hnw.tr n2
        clear q3 n2
        go_wp2
        exact ⟨⟨i, m, hm1, by omega, rfl, rfl, HLO.out, fun t h1 h2 => Int.le_trans HP.out (HS.out m t h1 h2), HN.out⟩, by simp [intOf]; omega⟩
      · have HP : Hid (zs.getD m 0 < rd) := by show _ < _; omega
        rw [decide_eq_false hp] at q3
        clear hp
        go_wp2_with fail
        refine q3.mono ?_
        rintro e w2 ⟨rfl, n2⟩
        have HN : Hid (Nw w w2) := hnw.tr n2
        clear q3 n2
        go_wp2
        exact ⟨⟨m + 1, j, hm2, hj, by go_num, rfl, fun t h1 => Int.lt_of_le_of_lt (HS.out t m (by omega) hmn) HP.out, HHI.out, HN.out⟩, by simp [intOf]; omega⟩
    · have hge : ¬ (i : Int) < (j : Int) := by omega
      go_wp2
      go_ret
      exact ⟨i, by omega, rfl, HLO.out, fun t h1 h2 => HHI.out t (by omega) h2, hnw⟩
theorem okR_pw : ∀ (zs : List Int) (l : Int), okR l zs = true → zs.Pairwise (· < ·) ∧ ∀ z ∈ zs, l < z
  | [], l, _ => ⟨.nil, by simp⟩
  | z :: r, l, h => by
    simp only [okR, Bool.and_eq_true, decide_eq_true_eq] at h
    obtain ⟨h1, h2⟩ := okR_pw r z h.2
    refine ⟨List.pairwise_cons.2 ⟨h2, h1⟩, fun x hx => ?_⟩
    rcases List.mem_cons.1 hx with rfl | hx
    · exact h.1
    · exact Int.lt_trans h.1 (h2 x hx)
theorem okR_mono {zs : List Int} (h : okR 0 zs = true) (i j : Nat) (hij : i ≤ j) (hj : j < zs.length) : zs.getD i 0 ≤ zs.getD j 0 := by
  obtain ⟨hp, _⟩ := okR_pw zs 0 h
  rcases Nat.lt_or_ge i j with hlt | hge
  · have := List.pairwise_iff_getElem.1 hp i j (by omega) hj hlt
    simp only [List.getD_eq_getElem?_getD, List.getElem?_eq_getElem hj, List.getElem?_eq_getElem (show i < zs.length by omega), Option.getD_some]
    omega
  · rw [show i = j by omega]; exact Int.le_refl _
theorem mem_at {zs : List Int} {rd : Int} {k : Nat} (hlo : ∀ j, j < k → zs.getD j 0 < rd) (hhi : ∀ j, k ≤ j → j < zs.length → rd ≤ zs.getD j 0) (hm : ∀ i j, i ≤ j → j < zs.length → zs.getD i 0 ≤ zs.getD j 0) :
    rd ∈ zs ↔ k < zs.length ∧ zs.getD k 0 = rd := by
  constructor
  · intro h
    obtain ⟨j, hj, e⟩ := List.getElem_of_mem h
    have e' : zs.getD j 0 = rd := by simp [List.getD_eq_getElem?_getD, hj, e]
    have h1 : k ≤ j := by
      rcases Nat.lt_or_ge j k with q | q
      · have := hlo j q; omega
      · exact q
    have := hm k j h1 hj
    have := hhi k (Nat.le_refl _) (by omega)
    exact ⟨by omega, by omega⟩
  · rintro ⟨h, e⟩
    rw [← e]
    simp [List.getD_eq_getElem?_getD, h]
set_option maxRecDepth 100000 in
set_option maxHeartbeats 2000000 in
theorem sfails_any {w : World} {b : Nat} {m : Value} {p : Option Addr} {c : Nat} {zs : List Int} {cr rn wn : Int} {dd : Bool} (h : w.heap[b]? = some (stc m (.slice p zs.length c) cr rn wn dd)) (hz : Iz w p zs) (hl : zs.length ≤ 1099511627776) (hok : okR 0 zs = true) (rd : Int) :
    Calls Tryd.prog 24 #[.pointer (some ⟨b, 0, none⟩), .int .i64 rd] w fun e w' => e = .returned (.bool (decide (rd ∈ zs))) ∧ Nw w w' := by
  obtain ⟨_, c1, _⟩ := stc_cs h
  have lb := heap_lt h
  clear h
  have HM : Hid (∀ i j, i ≤ j → j < zs.length → zs.getD i 0 ≤ zs.getD j 0) := okR_mono hok
  have HZ : Hid (Iz w p zs) := hz
  obtain ⟨n, hn⟩ : ∃ n, n = zs.length := ⟨_, rfl⟩
  have q := fun (W : World) (nw : Nw w W) (h5 : W.cell? ⟨w.heap.size + 1, 0, none⟩ = some (.slice p n c)) (h3 : W.cell? ⟨w.heap.size, 0, none⟩ = some (.int .i64 rd)) => search_any (w.heap.size + 1) w.heap.size p n c rd zs W h5 h3 (hz.nw nw) hn.symm (by omega) (by rw [hn]; exact HM.out)
  rw [← hn] at c1 hl
  have Hn : Hid (n = zs.length) := hn
  clear hn hz hok
  obtain ⟨r, hr⟩ : ∃ r, r = decide (rd ∈ zs) := ⟨_, rfl⟩
  rw [← hr]
  have HR : Hid (r = decide (rd ∈ zs)) := hr
  clear hr
  go_enter Tryd.func24, Tryd.ntmps24
  go_wp2_with fail
  refine (q _ ?_ ?_ ?_).mono ?_
  · exact ((Fr.refl _ w).alloc _).alloc _
  · exact (cell_of (heap_next _ _ _) 0).trans rfl
  · exact ((nwA _ _).cellOf (cell_of (heap_new _ _) 0)).trans rfl
  rintro e w1 ⟨k, hk, rfl, hlo, hhi, n1⟩
  have n2 : Nw w (((w.alloc (.cells #[.int .i64 rd] 3)).alloc (.cells #[.slice p n c] 22))) := ((Fr.refl _ w).alloc _).alloc _
  have HN : Hid (Nw w w1) := n2.tr n1
  have d5 : w1.cell? ⟨w.heap.size + 1, 0, none⟩ = some (.slice p n c) := n1.cellOf ((cell_of (heap_next w (.cells #[.int .i64 rd] 3) (.cells #[.slice p n c] 22)) 0).trans rfl)
  have d3 : w1.cell? ⟨w.heap.size, 0, none⟩ = some (.int .i64 rd) := n1.cellOf ((nwA _ (.cells #[.slice p n c] 22)).cellOf ((cell_of (heap_new w (.cells #[.int .i64 rd] 3)) 0).trans rfl))
  have HA : Hid (rd ∈ zs ↔ k < n ∧ zs.getD k 0 = rd) := by have := mem_at hlo (by rw [← Hn.out]; exact hhi) HM.out; rwa [← Hn.out] at this
  have HX : Hid (∀ j, j < n → ∃ g o, p = some ⟨g, o, none⟩ ∧ w1.cell? ⟨g, o + j, none⟩ = some (.int .i64 (zs.getD j 0))) := fun j hj => (HZ.out.nw HN.out) j (by rw [← Hn.out]; exact hj)
  have l5 := World.block_lt_of_cell? w1 _ d5
  have l3 := World.block_lt_of_cell? w1 _ d3
  clear hlo hhi q n1 n2
  by_cases hlt : k < n
  · obtain ⟨g, o, rfl, hc⟩ := HX.out k hlt
    have lg := World.block_lt_of_cell? w1 _ hc
    have hki : (k : Int) < (n : Int) := by omega
    have HA2 : Hid (decide (rd ∈ zs) = decide (zs.getD k 0 = rd)) := by show _ = _; rw [decide_eq_decide, HA.out]; simp [hlt]
    obtain ⟨x, hx⟩ : ∃ x, x = zs.getD k 0 := ⟨_, rfl⟩
    have HR2 : Hid (r = decide (x = rd)) := by show _ = _; rw [HR.out, HA2.out, hx]
    rw [← hx] at hc
    clear hx HA2 HA HX HZ HM HR
    go_wp2_with fail
    go_quiet (fail)
    go_wp2
    go_ret
    exact ⟨by rw [HR2.out]; first | rfl | simp, HN.out.drewN _⟩
  · have hki : ¬ (k : Int) < (n : Int) := by omega
    have hdf : decide ((k : Int) < (n : Int)) = false := decide_eq_false hki
    have HA2 : Hid (decide (rd ∈ zs) = false) := by show _ = _; rw [decide_eq_false_iff_not, HA.out]; simp [hlt]
    have HR2 : Hid (r = false) := by show _ = _; rw [HR.out, HA2.out]
    clear HA2 HA HX HZ HM HR
    go_wp2_with fail
    go_quiet (fail)
    go_wp2
    go_ret
    exact ⟨by rw [HR2.out]; rfl, HN.out.drewN _⟩
end Go.Proofs.YtdckjmbellngiaaDoor
