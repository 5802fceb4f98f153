/- store: Names. -/
import Derived.Test.YtdckjmbellngiaaDoorFg
import Derived.Test.YtdckjmbellngiaaDoorSh
import Derived.Sort.OwnSorted
import Derived.Maps.AppendAt
namespace Go.Proofs.YtdckjmbellngiaaDoor
open Go.RowKit Go.Maps Go.Sort Go.Proofs
set_option linter.unusedVariables false
set_option linter.unusedSimpArgs false
theorem infoS9 : (Tryd.prog.info? 9).map (fun i => (i.zero, i.size, i.bytes)) = some (some (.string ⟨#[]⟩), 1, 16) := by kernel_rfl
/-- The names of the texts, rising, each once. -/
def NamesOf (M : Tx) (ss : List (List UInt8)) : Prop := ss.Pairwise (· < ·) ∧ ∀ x : ByteArray, x.data.toList ∈ ss ↔ (M x).isSome = true
theorem names_sorted {ss : List (List UInt8)} (hnd : ss.Nodup) : (ss.mergeSort leB).Pairwise (· < ·) := by
  have tr : ∀ a b c : List UInt8, leB a b = true → leB b c = true → leB a c = true := fun a b c h1 h2 => by simp only [leB, decide_eq_true_eq] at *; exact List.le_trans h1 h2
  have tq : ∀ a b : List UInt8, (leB a b || leB b a) = true := fun a b => by simp only [leB, Bool.or_eq_true, decide_eq_true_eq]; exact List.le_total a b
  have h1 := List.pairwise_mergeSort tr tq ss
  have h2 : (ss.mergeSort leB).Nodup := (List.mergeSort_perm ss leB).nodup_iff.2 hnd
  refine (h1.and h2).imp ?_
  rintro a b ⟨ha, hb⟩
  simp only [leB, decide_eq_true_eq] at ha
  exact List.not_le.1 fun hc => hb (List.le_antisymm ha hc)
theorem names_of {D : DataW Unit} {M : Tx} {left : Lit → Bool} {ss : List (List UInt8)} (hC : Collected D left ss) (hl : ∀ kl, left kl = false) (hD : ∀ (k : ByteArray) zd, D.atKey (.string k.data.toList) zd = elT (M k) zd) : NamesOf M (ss.mergeSort leB) := by
  refine ⟨names_sorted hC.1, fun x => ?_⟩
  rw [(List.mergeSort_perm ss leB).mem_iff, hC.2, has_elT (hD x), hl]
  simp
set_option maxRecDepth 100000 in
set_option maxHeartbeats 2000000 in
theorem snames_any {w : World} {b bm n : Nat} {M : Tx} {rv : Value} {cr rn wn : Int} {dd : Bool} (hblk : w.heap[b]? = some (stc (.map (some bm)) rv cr rn wn dd)) (hmp : Mp w bm n M) (hn : n ≤ 1099511627776) (hkeys : ∀ k, (M k).isSome = true → k.size ≤ 256) :
    Calls Tryd.prog 12 #[.pointer (some ⟨b, 0, none⟩)] w fun e w' => ∃ (g cap : Nat) (ss : List (List UInt8)), e = .returned (.slice (some ⟨g, 0, none⟩) ss.length cap) ∧ NamesOf M ss ∧ ss.length ≤ n ∧ w'.ownsRow w.heap.size 9 1 (.slice (some ⟨g, 0, none⟩) ss.length cap) ss.length (ss.map encStr) ∧ Nw w w' := by
  obtain ⟨i0, hi, hz0, hz1, hz2⟩ := info_parts infoS9
  have q := sthere_any hblk
  obtain ⟨c0, _⟩ := stc_cs hblk
  have lb := heap_lt hblk
  obtain ⟨D0, hown, hD⟩ := hmp
  have hbl := hown.lt
  have hsz := hown.size_le
  have hmax : Maps.size D0 ≤ maxLen := by unfold maxLen; omega
  have HD : Hid (∀ (k : ByteArray) zd, D0.atKey (.string k.data.toList) zd = elT (M k) zd) := hD
  have qc := fun (W : World) (x : List UInt8) (hx : x.length ≤ 281474976710656) => clone_any ⟨x.toArray⟩ W hx
  have HK : Hid (∀ k, (M k).isSome = true → k.size ≤ 256) := hkeys
  clear hD hblk hkeys
  go_enter Tryd.func12, Tryd.ntmps12
  go_wp2_with fail
  refine q.mono ?_
  rintro e w' ⟨rfl, rfl⟩
  clear q
  go_wp2_with (first
    | (at_len; refine wpList_len_own _ rfl _ 28 rfl 9 61 Tryd.underlying28 _ bm n _ rfl hown ?_)
    | (at_make; (refine wpList_make_own _ rfl _ _ 41 rfl w'.heap.size 9 i0 (.string ⟨#[]⟩) 1 Tryd.underlying41 hi hz0 hz1 _ _ _ (Maps.size D0) rfl rfl rfl (by rw [hz2]; omega) hmax (Nat.le_refl _) ?_); intro w1 hrow1 hg1; have d0 := Nw.cellOf ((Fr.refl _ w').grown hg1 (fun k hk _ => by cases hk)) c0)
    | (at_range; refine wpList_range_own _ rfl _ 28 rfl 9 61 lawK Tryd.underlying28 _ bm n _ rfl (hown.kept hg1 (by simp)) ?_; intro w0 hrg0 hg0 hs0))
  go_frame
  go_loopw [3] (fun v wr => ∃ (left : Lit → Bool) (cnt : Nat) (ss : List (List UInt8)), wr.ranges Tryd.prog 9 keptR bm w1.heap.size n D0 left cnt ∧ ss.length + cnt ≤ Maps.size D0 ∧
      wr.ownsRow w'.heap.size 9 1 v ss.length (ss.map encStr) ∧ v ≠ .slice none 0 0 ∧ Collected D0 left ss ∧ Nw w' wr)
    (fun _ wr => wr.rangeLeft bm w1.heap.size)
  case atStart =>
    exact ⟨_, _, [], hrg0, by simp, hrow1.kept hg0 (Or.inr (by simp [Value.ownBlock])), by simp, Collected.start D0, ((Fr.refl _ _).grown hg1 (fun k hk _ => by cases hk)).grown hg0 (fun k hk _ => by cases hk)⟩
  case round =>
    obtain ⟨left, cnt, ss, hrg, hcs, hrow, hnn, hC, hnx⟩ := hrel
    go_wp2_with (at_next; refine wpList_next_ranges _ rfl _ rfl 9 lawK keptR encStr (fun s : ByteArray => .agg #[.string s]) (fun key kl hk => by obtain ⟨x, hx, _⟩ := Maps.keyOf_str Tryd.underlying9 hk; exact ⟨x, hx⟩) (fun v y hv => by obtain ⟨c, rfl, _⟩ := keptR_inv hv; exact ⟨c, rfl⟩) bm w1.heap.size n _ _ _ rfl hrg ?_ ?_)
    · intro hc0 hl0
      rcases hrow.2 with ⟨hnil, _⟩ | ⟨g, cap, cur, rfl, hbase, hb, h1, h2, h3, h4⟩
      · exact absurd hnil hnn
      have hH : Holds encStr wr g 0 ss.toArray := holds_of_block hb (by simpa using h4)
      have hgl : g < wr.heap.size := (Array.getElem?_eq_some_iff.1 hb).1
      have hc : Calls Tryd.prog 25 #[.slice (some ⟨g, 0, none⟩) ss.length cap] wr fun e w' => e = .returned (.tuple #[]) ∧ ∃ n os, w' = grow (putRow encStr (Sort.ahead wr n) g 0 (ss.mergeSort fun x y => decide (x ≤ y)).toArray) os := Any.slices_Sort_string Tryd.lays190 g 0 cap ss wr hH hgl (by omega)
      have HN : Hid (NamesOf M (ss.mergeSort leB)) := names_of hC hl0 HD.out
      go_wp2_with (go_at_call 25; refine hc.mono ?_; rintro e w5 ⟨rfl, nn, os, rfl⟩)
      go_ret
      refine ⟨g, cap, ss.mergeSort leB, by rw [List.length_mergeSort]; rfl, HN.out, by rw [List.length_mergeSort]; omega, ?_, hnx.grown (grownBy_sorted _) (fun k hk hlt => by cases hk; omega)⟩
      have := ownsRow_sorted (w := wr) (n := nn) (os := os) (ss := ss) (ts := ss.mergeSort leB) (by simp) hbase hb h1 h2 h3
      rwa [List.length_mergeSort]
    · intro x c kl yd yp w2 cnt2 hkey hlk hv hat hrg2 hlt hg2 hs2 hen
      obtain ⟨x', ex, rfl, hxl⟩ := Maps.keyOf_str Tryd.underlying9 hkey
      obtain rfl : x = x' := encStr_inj ex
      have hx2 : x.length ≤ 281474976710656 := by
        have h1 := Maps.has_true_of_atKey hat
        have h2 := has_elT (HD.out ⟨x.toArray⟩)
        simp only [List.toList_toArray] at h2
        rw [h2] at h1
        have h3 := HK.out _ h1
        simp [ByteArray.size] at h3
        omega
      have hrow2 := hrow.kept hg2 (Or.inr (row_ne_iter hrow hrg).symm)
      have n2 : Hid (Nw w' w2) := hnx.grown hg2 (fun k hk hlt => by cases hk; have := hg1.size; omega)
      have HRG2 : Hid (w2.ranges Tryd.prog 9 keptR bm w1.heap.size n D0 (fun z => left z && !z.sameKey (.string x)) cnt2) := hrg2
      have HRW2 : Hid (w2.ownsRow w'.heap.size 9 1 u3 ss.length (ss.map encStr)) := hrow2
      have q5 := qc w2 x hx2
      have HM : Hid (w2.rangeLeft bm w1.heap.size < wr.rangeLeft bm w1.heap.size) := by show _ < _; rw [hrg2.left_eq, hrg.left_eq]; exact hlt
      clear hs2 hrg2 hrow2 hrow hg2
      simp only [encStr] at hen ⊢
      go_wp2_with fail
      refine q5.mono ?_
      rintro e w3 ⟨rfl, n3⟩
      have N3 : Hid (Nw w2 w3) := n3
      have hg3' : w2.grownBy w3 none := ⟨n3.os, n3.tape, n3.output, n3.size, fun i hi _ => n3.block i hi (fun f => f)⟩
      have hrow3 : Hid (w3.ownsRow w'.heap.size 9 1 u3 ss.length (ss.map encStr)) := ownsRow_keep HRW2.out (fun g hg => n3.block g (HRW2.out.lt g hg).2 (fun f => f))
      have hrg3 : Hid (w3.ranges Tryd.prog 9 keptR bm w1.heap.size n D0 (fun z => left z && !z.sameKey (.string x)) cnt2) := HRG2.out.kept hg3' (by simp) (by simp)
      have nb : Hid (w'.heap.size ≤ w3.heap.size) := Nat.le_trans n2.out.size n3.size
      clear n3 hg3' q5 qc
      have X1 : Hid (ss.length + 1 ≤ maxLen) := by show _ ≤ _; unfold maxLen; omega
      have X2 : Hid ((ss.length + 1) * 16 ≤ 140737488355328) := by show _ ≤ _; omega
      have X3 : Hid (w'.heap.size ≤ (w3.alloc (.cells #[.string ⟨x.toArray⟩] 9)).heap.size) := by show _ ≤ _; have := nb.out; simp; omega
      go_wp2_with (at_builtin; refine wpList_append_own _ rfl _ _ 41 rfl w'.heap.size 9 i0 (.string ⟨#[]⟩) 1 16 Tryd.underlying41 hi hz0 hz1 hz2 rfl (by decide) _ _ _ rfl (hrow3.out.alloc _) ⟨w3.heap.size, 0, none⟩ 1 1 [.string ⟨x.toArray⟩] rfl rfl (cell_one_new _ _ _) (by simp [Value.oneCell']) X1.out X2.out X3.out ?_; intro v' w4 hown' hg4 hnil4; go_frame)
      have hrg4 := (hrg3.out.alloc _).kept hg4 (row_ne_low hrow3.out hbl) (row_ne_iter hrow3.out hrg3.out)
      go_roundw
      case rel =>
        refine ⟨_, cnt2, ss ++ [x], hrg4, by simp; omega, by simpa [encStr] using hown', fun hv' => by have := (hnil4.1 hv').2; omega, hC.step hlk hat, ?_⟩
        exact ((n2.out.tr N3.out).alloc _).grown hg4 (fun k hk hlt' => by have := (hrow3.out.lt k hk).1; omega)
      case measure => rw [hrg4.left_eq, hrg.left_eq]; exact hlt
end Go.Proofs.YtdckjmbellngiaaDoor
