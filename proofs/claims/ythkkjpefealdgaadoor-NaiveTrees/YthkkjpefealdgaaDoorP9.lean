/- SHA of texts, one behind the other. -/
import Derived.Test.YthkkjpefealdgaaDoorP8
namespace Go.Proofs.YthkkjpefealdgaaDoor
open Go.RowKit
set_option linter.unusedVariables false
set_option linter.unusedSimpArgs false

/-- Texts, one behind the other. -/
def cat (ss : List ByteArray) : List UInt8 := ss.flatMap fun x => x.data.toList
theorem cat_step (ss : List ByteArray) (k : Nat) (x : ByteArray) (h : ss[k]? = some x) : cat (ss.take (k + 1)) = cat (ss.take k) ++ x.data.toList := by
  rw [List.take_add_one, h]
  simp [cat]
theorem cat_len (ss : List ByteArray) (k : Nat) : (cat (ss.take k)).length ≤ (cat ss).length := by
  have h : cat ss = cat (ss.take k) ++ cat (ss.drop k) := by
    rw [cat, cat, cat, ← List.flatMap_append, List.take_append_drop]
  rw [h, List.length_append]; omega
/-- Texts in memory. -/
def Strs (w : World) (p : Option Addr) (ss : List ByteArray) : Prop := ∀ (j : Nat) (x : ByteArray), ss[j]? = some x → ∃ g o, p = some ⟨g, o, none⟩ ∧ w.cell? ⟨g, o + j, none⟩ = some (.string x)
theorem Strs.nw {w w' : World} {p : Option Addr} {ss : List ByteArray} (h : Strs w p ss) (k : Nw w w') : Strs w' p ss := fun j x hx => by
  obtain ⟨g, o, hp, hc⟩ := h j x hx
  exact ⟨g, o, hp, k.cellOf hc⟩
def z32l : Array Value := #[.int .u8 0, .int .u8 0, .int .u8 0, .int .u8 0, .int .u8 0, .int .u8 0, .int .u8 0, .int .u8 0, .int .u8 0, .int .u8 0, .int .u8 0, .int .u8 0, .int .u8 0, .int .u8 0, .int .u8 0, .int .u8 0, .int .u8 0, .int .u8 0, .int .u8 0, .int .u8 0, .int .u8 0, .int .u8 0, .int .u8 0, .int .u8 0, .int .u8 0, .int .u8 0, .int .u8 0, .int .u8 0, .int .u8 0, .int .u8 0, .int .u8 0, .int .u8 0]
theorem z32_eq : z32l = z32 := by kernel_rfl
theorem zd_size : (Tryd.zeroCells96).toList.drop (0 + 74) = [] := zc_d
theorem d0_one : ∀ u ∈ d0.toList, u.oneCell' = true := dcs_one _ _ _
theorem d0_size : d0.size = 74 := dcs_size _ _ _ (by simp)

set_option maxRecDepth 100000 in
set_option maxHeartbeats 1000000 in
theorem sums_any (p : Option Addr) (cap : Nat) (ss : List ByteArray) (w : World) (hp : Strs w p ss) (hL : Laid w) (hlen : (cat ss).length < 576460752303423488) (hcnt : ss.length < 4611686018427387904) :
    Calls Tryd.prog 34 #[.slice p ss.length cap] w fun e w' => e = .returned (hsh (sha (cat ss))) ∧ Nw w w' := by
  have HP : Hid (Strs w p ss) := hp
  have HL : Hid (Laid w) := hL
  have HN : Hid ((cat ss).length < 576460752303423488) := hlen
  have hs2 := hL.lt
  clear hp hL hlen
  obtain ⟨n, hn⟩ : ∃ n, n = ss.length := ⟨_, rfl⟩
  rw [← hn] at hcnt ⊢
  have Hn : Hid (n = ss.length) := hn
  clear hn
  go_enter Tryd.func34, Tryd.ntmps34
  go_wp2_with first
    | (refine wp_load_cells rfl (.global 16) 93 8 rfl Tryd.isAgg93 Tryd.sizeOf93 16 0 rfl (vals H0) rfl (fun j u hj => by rw [Nat.zero_add, HL.out.b.nw ((Fr.refl _ _).alloc _) j (by have := (Array.getElem?_eq_some_iff.1 hj).1; simpa [vals] using this)]; exact hj) ?_)
    | (refine wp_store_agg rfl (.tmp 3) (.tmp 7) 96 74 rfl Tryd.sizeOf96 (w.heap.size + 1) 0 rfl _ 96 (heap_next w _ _) d0 (by show Value.agg _ = Value.agg _; exact congrArg Value.agg d0_eq) d0_size d0_one (by first | decide | exact Nat.le_refl _ | kernel_rfl) d0 (by simp [zc_d]) ?_; intro w5 j5 f5 z5)
  have hz5 : w5.heap[w.heap.size]? = some (.cells z32 32 (0, 0)) := (f5.block w.heap.size (by simp; omega) (by omega)).trans ((Below.heap_alloc _ _ _ (by simp)).trans ((heap_new w _).trans (by kernel_rfl)))
  have n5 : Nw w w5 := (((Fr.refl _ _).alloc _).alloc _).trans f5 (fun k hk q => by omega)
  clear f5 z5 h
  generalize (Array.foldl (fun cs (x : Value × Nat) => cs.setIfInBounds (1 + x.snd) x.fst) (Tryd.zeroCells96.setIfInBounds 0 (Value.bool true)) (vals H0).zipIdx 0 (vals H0).size) = dd
  generalize vals H0 = vh
  go_loopw [10] (fun i wr => ∃ k : Nat, k ≤ n ∧ i = .int .i64 k ∧ Nw w wr ∧ Dig wr (w.heap.size + 1) (cat (ss.take k)) ∧ wr.heap[w.heap.size]? = some (.cells z32 32 (0, 0))) (fun i _ => n - (intOf i).toNat)
  case atStart => exact ⟨0, by omega, rfl, n5, dig_new j5, hz5⟩
  case round =>
    clear n5 j5 hz5
    obtain ⟨k, hk, rfl, hnw, hD, hz⟩ := hrel
    have HD : Hid (Dig wr (w.heap.size + 1) (cat (ss.take k))) := hD
    clear hD
    by_cases hlt : k < n
    · have hx : ss[k]? = some (ss[k]'(by have := Hn.out; omega)) := List.getElem?_eq_getElem _
      generalize ss[k]'(by have := Hn.out; omega) = x at hx
      obtain ⟨g, o, rfl, hc⟩ := HP.out k x hx
      have hc2 := hnw.cellOf hc
      have hst : Hid (cat (ss.take (k + 1)) = cat (ss.take k) ++ x.data.toList) := cat_step ss k x hx
      have hln := cat_len ss (k + 1)
      rw [hst.out, List.length_append] at hln
      have hxl : x.data.toList.length = x.size := by rw [Array.length_toList]; rfl
      have hl2 : (cat (ss.take k)).length + x.size < 4611686018427387904 := by have := HN.out; omega
      clear hln hxl hx hc
      have hki : (k : Int) < (n : Int) := by omega
      go_wp2_with fail
      refine (take_any (w.heap.size + 1) (cat (ss.take k)) x wr HD.out (HL.out.k.nw hnw) (by omega) hl2).mono ?_
      rintro e6 w6 ⟨rfl, D6, f6⟩
      go_wp2
      refine ⟨⟨k + 1, by omega, by go_num, hnw.trans f6 (fun k hk q => by omega), by rw [hst.out]; exact D6, ?_⟩, by simp [intOf]; omega⟩
      exact (f6.block w.heap.size (heap_lt hz) (by omega)).trans hz
    · have HE : Hid (cat (ss.take k) = cat ss) := by unfold Hid; rw [List.take_of_length_le (by have := Hn.out; omega)]
      have HD2 : Hid (Dig wr (w.heap.size + 1) (cat ss)) := by unfold Hid; rw [← HE.out]; exact HD.out
      have hge : ¬ (k : Int) < (n : Int) := by omega
      clear HD HE hlt
      go_wp2_with first
        | (go_at_call 46; refine (end_any (w.heap.size + 1) (cat ss) wr HD2.out (HL.out.k.nw hnw) (by omega) HN.out).mono ?_; rintro e6 w6 ⟨rfl, f6⟩; have z6 := (f6.block w.heap.size (heap_lt hz) (by omega)).trans hz; unfold hsh)
        | (refine wp_store_agg rfl (.tmp 2) (.tmp 17) 32 32 rfl Tryd.sizeOf32 w.heap.size 0 rfl z32 32 z6 (hcs (sha (cat ss)) 32) rfl (hcs_size _ _) (hcs_one _ 32) (by decide) (hcs (sha (cat ss)) 32) (by rw [z32_drop]; simp) ?_; intro w7 j7 f7 z7)
      exact bodyPost_ret (results_cell Tryd.results34 Tryd.isAgg32 Tryd.sizeOf32 rfl j7 (hcs_size _ _)) rfl ⟨rfl, (hnw.trans f6 (fun k hk q => by omega)).trans f7 (fun k hk q => by omega)⟩
end Go.Proofs.YthkkjpefealdgaaDoor
