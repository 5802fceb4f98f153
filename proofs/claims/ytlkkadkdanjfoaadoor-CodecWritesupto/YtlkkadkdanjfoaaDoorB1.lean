/- What was put is read by the same reads, and then the text is at its end. -/
import Derived.Test.YtlkkadkdanjfoaaDoorZ1
import Derived.ChangeKeysEq
namespace Go.Proofs.YtlkkadkdanjfoaaDoor
open Go.RowKit
set_option linter.unusedVariables false
set_option linter.unusedSimpArgs false

theorem plain8 : Tryd.prog.plainKey 5 = true := by kernel_rfl
theorem eqItems_self (w : World) (l : List UInt8) : ∀ (is : List Nat), (∀ i ∈ is, i < l.length) → (Op.eqItems 9999 5 1 (bc l).toArray (bc l).toArray is).run Tryd.prog w = .ok true w
  | [], _ => by simp [Op.eqItems]
  | i :: is, h => by
    have hi := h i (by simp)
    have hg : (bc l).toArray[i * 1]? = some (.int .u8 (l[i].toNat : Int)) := by simp [bc, hi]
    have hp := run_part_plain w plain8 hg
    have ih := eqItems_self w l is (fun j hj => h j (by simp [hj]))
    have he : (Op.equalIn 9999 5 (.int .u8 (l[i].toNat : Int)) (.int .u8 (l[i].toNat : Int))).run Tryd.prog w = .ok true w := by
      rw [run_equalIn_int w 9998 5 .u8 .u8 _ _ Tryd.underlying5]; simp
    simp only [Op.eqItems, Sem.run_bind, hp, he, Result.andThen_ok, Bool.not_true, Bool.false_eq_true, if_false, ih]
theorem hash_eq (l : List UInt8) (hl : l.length = 32) (w : World) : (Op.equalIn 10000 32 (.agg (bc l).toArray) (.agg (bc l).toArray)).run Tryd.prog w = .ok true w := by
  obtain ⟨i0, hi, _⟩ := info_parts8
  rw [run_equalIn_array w 9999 _ _ Tryd.underlying32 hi, cells5]
  exact eqItems_self w l _ (fun i hi => by rw [hl]; exact List.mem_range.1 hi)

theorem Sent.up {B B' : Nat} {w : World} {a : Nat → Addr} (h : Sent B w a) (h1 : B ≤ B') (h2 : B' ≤ w.heap.size) : Sent B' w a :=
  { h with blk := fun i hi => ⟨Nat.lt_of_lt_of_le (h.blk i hi).1 h1, (h.blk i hi).2⟩, hB := Nat.le_trans h.hB h1, hsz := h2 }
/-- The things that were taken, in memory below B. -/
def Tk (w : World) (B : Nat) (lv : Value) (ks : List Kt) : Prop :=
  ∃ ad cap, lv = .slice ad ks.length cap ∧ (0 < ks.length → ∃ g off, ad = some ⟨g, off, none⟩ ∧ g < B ∧ g < w.heap.size ∧ ∀ k x, ks[k]? = some x → ∀ j u, x.A[j]? = some u → w.cell? ⟨g, off + k * 37 + j, none⟩ = some u)
theorem Tk.fr {S : Nat → Prop} {w w' : World} {B : Nat} {lv : Value} {ks : List Kt} (h : Tk w B lv ks) (hf : Fr S w w') (hS : ∀ k, k < B → ¬ S k) : Tk w' B lv ks := by
  obtain ⟨ad, cap, rfl, h⟩ := h
  refine ⟨ad, cap, rfl, fun h0 => ?_⟩
  obtain ⟨g, off, rfl, h1, h2, h3⟩ := h h0
  exact ⟨g, off, rfl, h1, Nat.lt_of_lt_of_le h2 hf.size, fun k x hx j u hu => (hf.cell (p := ⟨g, off + k * 37 + j, none⟩) h2 (hS g h1)).trans (h3 k x hx j u hu)⟩
theorem Tk.of {w : World} {base B : Nat} {lv : Value} {ks : List Kt} (h : w.ownsRow base 34 37 lv ks.length (flatA ks)) (hB : w.heap.size ≤ B) (hk : ∀ x ∈ ks, x.ok) : Tk w B lv ks := by
  have hlt := h.lt
  rcases h.2 with ⟨rfl, hn⟩ | ⟨g, cap, cur, rfl, _⟩
  · have : ks.length = 0 := by simpa using hn
    exact ⟨none, 0, by rw [this], fun h0 => by omega⟩
  · refine ⟨_, _, rfl, fun _ => ⟨g, 0, rfl, by have := hlt g rfl; omega, (hlt g rfl).2, fun k x hx j u hu => ?_⟩⟩
    have := h.cells (g := g) rfl (k * 37 + j) u (flatA_get ks k x (fun y hy => (hk y hy).1.g.size) hx j u hu)
    rw [addZ] at this
    rw [Nat.zero_add]
    exact this

set_option maxRecDepth 100000 in
set_option maxHeartbeats 8000000 in
theorem back_any (w : World) (a : Nat → Addr) (v0 : Value) (n0 : Nat) (A0 : Nat → Array Value) (hS : Sent w.heap.size w a) (hT : Thf w v0 n0 A0) (hn0 : n0 ≤ 150000) :
    Calls Tryd.prog 5 #[v0] w fun e w' => e = .returned (.bool true) ∧ Fr (fun _ => False) w w' := by
  go_enter Tryd.func5, Tryd.ntmps5
  go_wp2_with fail
  refine (lives_any _ w a hS).mono ?_
  rintro e w1 ⟨rfl, f1⟩
  have hs1 : Sent w1.heap.size w1 a := (hS.fr f1 (nofalse _)).up f1.size (Nat.le_refl _)
  have hT1 : Thf w1 v0 n0 A0 := ⟨hT.1, hT.2.fr f1 (fun _ _ f => f)⟩
  go_wp2_with fail
  refine (taken_any w1 a v0 n0 A0 hs1 hT1 hn0).mono ?_
  rintro e w2 ⟨ks, lv, rfl, hok, hown, f2, hfl, hkn⟩
  obtain ⟨s, hse⟩ : ∃ s : ByteArray, s = ⟨(flatF ks).toArray⟩ := ⟨_, rfl⟩
  have hsl : s.data.toList = flatF ks := by rw [hse]
  have hsz : s.size = (flatF ks).length := by rw [hse]; simp [ByteArray.size]
  rw [← hse]
  clear hse
  have hsb : s.size ≤ 1000000000000 := by
    have : ks.length * 1048608 ≤ 150000 * 1048608 := Nat.mul_le_mul_right _ (by omega)
    omega
  have hsm : s.size ≤ maxLen := by unfold maxLen; omega
  have hSL : Hid (s.data.toList = flatF ks) := hsl
  have hSZ : Hid (s.size = (flatF ks).length) := hsz
  clear hsl hsz hfl
  go_wp2_with fail
  refine (newR s w2).mono ?_
  rintro e w3 ⟨rfl, h3, f3, z3⟩
  have g3 : Fr (fun _ => False) w w3 := (f1.trans f2 (fun _ _ q => q)).trans f3 (fun _ _ q => q)
  have hk3 : Tk w3 w2.heap.size lv ks := (Tk.of hown (Nat.le_refl _) hok).fr f3 (fun _ _ f => f)
  have hlv := hk3
  obtain ⟨ad, cap, rfl, _⟩ := hlv
  have l1 : w.heap.size ≤ w2.heap.size := Nat.le_trans f1.size f2.size
  have hknm : ks.length ≤ 150000 := by omega
  go_wp2_with fail
  go_loopw [6] (fun i wr => ∃ (k : Nat), k ≤ ks.length ∧ i = .int .i64 k ∧ Rd wr w2.heap.size s ((flatF (ks.take k)).length : Nat) .nilIface 0 ∧ Tk wr w2.heap.size (.slice ad ks.length cap) ks ∧ Fr (fun _ => False) w wr) (fun i _ => ks.length - (intOf i).toNat)
  case atStart => exact ⟨0, by omega, rfl, h3, hk3, g3⟩
  case round =>
    obtain ⟨k, hk, rfl, hR, hTk, gr⟩ := hrel
    have hsr := hS.fr gr (nofalse _)
    by_cases hlt : k < ks.length
    · obtain ⟨x, hx⟩ : ∃ x, ks[k]? = some x := ⟨_, List.getElem?_eq_getElem hlt⟩
      obtain ⟨hTf, hfm, hwt, htb⟩ := hok x (List.mem_of_getElem? hx)
      obtain ⟨hd, hnx⟩ := flatF_take ks k x hx
      rw [← hSL.out] at hd
      have HD : Hid (s.data.toList.drop (flatF (ks.take k)).length = x.F ++ flatF (ks.drop (k + 1))) := hd
      have HN : Hid ((flatF (ks.take (k + 1))).length = (flatF (ks.take k)).length + x.F.length) := hnx
      obtain ⟨P, hP⟩ : ∃ P, P = (flatF (ks.take k)).length := ⟨_, rfl⟩
      rw [← hP] at hR
      have HP : Hid (P = (flatF (ks.take k)).length) := hP
      have hTk2 := hTk
      obtain ⟨_, _, he, hxx⟩ := hTk2
      obtain ⟨g, off, rfl, hg1, hgl, hcl⟩ := hxx (by omega)
      have hck := hcl k x hx
      injection he with e1 e2 e3
      subst e1 e3
      clear hcl hxx e2 hd hnx hP
      have hkn' : (k : Int) < ks.length := by omega
      have hs37 := hTf.g.size
      have hbl := heap_lt hR
      have ka : (wr.alloc (.cells (tZ 0 0 0 ⟨#[]⟩) 34)).heap[wr.heap.size]? = some (.cells (tZ 0 0 0 ⟨#[]⟩) 34 (0, 0)) := heap_alloc_new wr _
      have fa : Fr (fun _ => False) wr (wr.alloc (.cells (tZ 0 0 0 ⟨#[]⟩) 34)) := (Fr.refl _ _).alloc _
      go_wp2_with (first
        | (refine wp_load_cells rfl (.tmp 27) 34 37 rfl Tryd.isAgg34 Tryd.sizeOf34 g (off + k * 37) rfl x.A hs37 hck ?_)
        | (refine wp_store_agg rfl (.tmp 7) (.tmp 28) 34 37 rfl Tryd.sizeOf34 wr.heap.size 0 rfl (tZ 0 0 0 ⟨#[]⟩) 34 ka x.A rfl hs37 hTf.one (by decide) x.A (by have : (tZ 0 0 0 ⟨#[]⟩).toList.drop (0 + 37) = [] := rfl; rw [this]; simp) ?_; intro w4 j4 f4 z4; have g4 : Fr (fun _ => False) wr w4 := fa.trans f4 (fun k hk q => by omega))
        | (refine wp_load_agg rfl (.tmp 7) 34 37 rfl Tryd.isAgg34 Tryd.sizeOf34 wr.heap.size 0 rfl x.A 34 (0, 0) j4 x.A hs37 (fun j _ => by rw [Nat.zero_add]) ?_))
      have gr4 := gr.trans g4 (fun _ _ q => q)
      have z4' : w4.heap.size = wr.heap.size + 1 := by simpa using z4
      refine (took_k (hS.fr gr4 (nofalse _)) l1 (hR.fr g4 (fun f => f)) hsb hTf hfm hwt htb (by rw [HP.out]; exact HD.out)).mono ?_
      rintro e w5 ⟨V, rfl, hV37, hV1, hVm, h5, f5⟩
      have j5 : w5.heap[wr.heap.size]? = some (.cells x.A 34 (0, 0)) := (f5.block _ (by omega) (by omega)).trans j4
      have hT5 : Tk w5 w2.heap.size (.slice (some ⟨g, off, none⟩) ks.length cap) ks := (hTk.fr g4 (fun _ _ f => f)).fr f5 (fun k hk q => by omega)
      have gr5 : Fr (fun _ => False) w w5 := gr4.trans f5 (fun k hk q => by omega)
      have hb5 := heap_lt h5
      have hj5 := heap_lt j5
      have kb : (w5.alloc (.cells (tZ 0 0 0 ⟨#[]⟩) 34)).heap[w5.heap.size]? = some (.cells (tZ 0 0 0 ⟨#[]⟩) 34 (0, 0)) := heap_alloc_new w5 _
      have fb : Fr (fun _ => False) w5 (w5.alloc (.cells (tZ 0 0 0 ⟨#[]⟩) 34)) := (Fr.refl _ _).alloc _
      have HVM : Hid (Vm x.kd x.n x.t x.lh V) := hVm
      clear hVm
      go_wp2_with (refine wp_store_agg rfl (.tmp 8) (.tmp 31) 34 37 rfl Tryd.sizeOf34 w5.heap.size 0 rfl (tZ 0 0 0 ⟨#[]⟩) 34 kb V rfl hV37 hV1 (by decide) V (by have : (tZ 0 0 0 ⟨#[]⟩).toList.drop (0 + 37) = [] := rfl; rw [this]; simp) ?_; intro w6 j6 f6 z6; have g6 : Fr (fun _ => False) w5 w6 := fb.trans f6 (fun k hk q => by omega); have i6 := (g6.block _ hj5 (fun f => f)).trans j5; have d1 := (cell_of i6 1).trans hTf.g.k)
      refine (round_any x.kd _ hTf.g.k1 hTf.g.k2).mono ?_
      rintro e w7 ⟨rfl, rfl⟩
      have h7 := h5.fr g6 (fun f => f)
      have hT7 := hT5.fr g6 (fun _ _ f => f)
      have gr7 := gr5.trans g6 (fun _ _ q => q)
      have hnext : ∃ k' : Nat, k' = k + 1 ∧ Rd w7 w2.heap.size s ((flatF (ks.take k')).length : Nat) .nilIface 0 := ⟨k + 1, rfl, by rw [HN.out, ← HP.out]; exact h7⟩
      have h4 : x.kd % 4 = 0 ∨ x.kd % 4 = 1 ∨ x.kd % 4 = 2 ∨ x.kd % 4 = 3 := by omega
      rcases h4 with h4 | h4 | h4 | h4
      · have c1 := (cell_of j6 2).trans (HVM.out.1 (.inl h4))
        have c2 := (cell_of i6 2).trans hTf.cn
        rw [h4]
        go_wp2_with fail
        go_roundw
        case rel => obtain ⟨k', rfl, hR'⟩ := hnext; exact ⟨k + 1, by omega, by go_num, hR', hT7, gr7⟩
        case measure => simp [intOf]; omega
      · have c1 := (cell_of j6 2).trans (HVM.out.1 (.inr h4))
        have c2 := (cell_of i6 2).trans hTf.cn
        rw [h4]
        go_wp2_with fail
        go_roundw
        case rel => obtain ⟨k', rfl, hR'⟩ := hnext; exact ⟨k + 1, by omega, by go_num, hR', hT7, gr7⟩
        case measure => simp [intOf]; omega
      · have c1 := (cell_of j6 4).trans (HVM.out.2.1 h4)
        have c2 := (cell_of i6 4).trans hTf.ct
        rw [h4]
        go_wp2_with fail
        go_roundw
        case rel => obtain ⟨k', rfl, hR'⟩ := hnext; exact ⟨k + 1, by omega, by go_num, hR', hT7, gr7⟩
        case measure => simp [intOf]; omega
      · have hvh := HVM.out.2.2 h4
        have eh := hash_eq x.lh hTf.hl
        obtain ⟨H, hH⟩ : ∃ H, H = (bc x.lh).toArray := ⟨_, rfl⟩
        have hH32 : H.size = 32 := by rw [hH]; simp [bc_len, hTf.hl]
        have q1 : ∀ j, j < 32 → V[5 + j]? = H[j]? := fun j hj => by rw [hvh j hj, hH]; simp
        have q2 : ∀ j, j < 32 → x.A[5 + j]? = H[j]? := fun j hj => by rw [hTf.ch j hj, hH]; simp
        rw [← hH] at eh
        clear hH hvh
        rw [h4]
        go_wp2_with (first
          | (refine wp_load_agg rfl (.tmp 35) 32 32 rfl Tryd.isAgg32 Tryd.sizeOf32 w5.heap.size 5 rfl V 34 (0, 0) j6 H hH32 q1 ?_)
          | (refine wp_load_agg rfl (.tmp 37) 32 32 rfl Tryd.isAgg32 Tryd.sizeOf32 wr.heap.size 5 rfl x.A 34 (0, 0) i6 H hH32 q2 ?_))
        go_roundw
        case rel => obtain ⟨k', rfl, hR'⟩ := hnext; exact ⟨k + 1, by omega, by go_num, hR', hT7, gr7⟩
        case measure => simp [intOf]; omega
    · have hge : ¬ ((k : Int) < ks.length) := by omega
      obtain rfl : k = ks.length := by omega
      have hpe : (flatF (ks.take ks.length)).length = s.size := by rw [List.take_length, hSZ.out]
      rw [hpe] at hR
      go_wp2_with fail
      refine (end_ok _ s s.size 0 (a 2) wr hR rfl hsm hsr.c2).mono ?_
      rintro e w4 ⟨rfl, f4⟩
      have hR4 := hR.fr f4 (fun f => f)
      have hleft := left_yes _ s s.size 0 w4 hR4 (Nat.le_refl _) hsm
      rw [Int.sub_self] at hleft
      go_wp2_with fail
      refine hleft.mono ?_
      rintro e w5 ⟨rfl, _, f5⟩
      go_wp2_with fail
      go_ret
      exact ⟨rfl, (gr.trans f4 (fun _ _ q => q)).trans f5 (fun _ _ q => q)⟩
end Go.Proofs.YtlkkadkdanjfoaaDoor
