/- What was put, cut off ahead of its end, is refused. -/
import Derived.Test.YtlkkadkdanjfoaaDoorB1
import Derived.Test.YtlkkadkdanjfoaaDoorS4
namespace Go.Proofs.YtlkkadkdanjfoaaDoor
open Go.RowKit
set_option linter.unusedVariables false
set_option linter.unusedSimpArgs false

theorem tmod_n (k : Int) (n : Nat) (hn : 0 < n) : (k.tmod n < 0 → k.tmod n + n = k % n) ∧ (¬ k.tmod n < 0 → k.tmod n = k % n) ∧ -(n : Int) < k.tmod n ∧ k.tmod n < n := by
  have h1 : (k.tmod n).natAbs < n := by
    rw [Int.natAbs_tmod, Int.natAbs_natCast]
    exact Nat.mod_lt _ hn
  have h2 : k % (n : Int) = (k.tmod n) % (n : Int) := by
    have e := Int.mul_tdiv_add_tmod k n
    calc k % (n : Int) = (n * k.tdiv n + k.tmod n) % (n : Int) := by rw [e]
      _ = (k.tmod n) % (n : Int) := by rw [Int.add_comm, Int.add_mul_emod_self_left]
  refine ⟨fun h => ?_, fun h => ?_, by omega, by omega⟩
  · rw [h2, ← Int.add_emod_right, Int.emod_eq_of_lt (by omega) (by omega)]
  · rw [h2, Int.emod_eq_of_lt (by omega) (by omega)]
theorem round_n (k : Int) (n : Nat) (w : World) (h1 : -9223372036854775808 ≤ k) (h2 : k ≤ 9223372036854775807) (hn : 0 < n) (hn2 : n ≤ 1000000000000) : Calls Tryd.prog 10 #[.int .i64 k, .int .i64 n] w fun e w' => e = .returned (.int .i64 (k % n)) ∧ w' = w := by
  obtain ⟨t1, t2, t3, t4⟩ := tmod_n k n hn
  have T1 : Hid (k.tmod n < 0 → k.tmod n + n = k % n) := t1
  have T2 : Hid (¬ k.tmod n < 0 → k.tmod n = k % n) := t2
  clear t1 t2
  have hn0 : ¬ ((n : Int) = 0) := by omega
  have hn1 : ¬ ((n : Int) = -1) := by omega
  by_cases h : k.tmod n < 0
  · have E : Hid (k.tmod n + n = k % n) := T1.out h
    clear T1 T2
    go_enter Tryd.func10, Tryd.ntmps10
    go_wp2
    go_ret
    exact ⟨by rw [← E.out]; rfl, rfl⟩
  · have E : Hid (k.tmod n = k % n) := T2.out h
    clear T1 T2
    go_enter Tryd.func10, Tryd.ntmps10
    go_wp2
    go_ret
    exact ⟨by rw [← E.out]; rfl, rfl⟩

theorem cut_slice (s : ByteArray) (c : Nat) (h : c ≤ s.size) (w : World) : (Instr.slice 9 (.string s) none (some (.int .i64 (c : Int))) none).run Tryd.prog w = .ok (.string (sub s 0 c)) w := by
  rw [run_slice_string_to_if _ _ _ _ _ Tryd.underlying9, if_pos (by omega)]
  unfold sub
  rw [Int.toNat_natCast, Nat.zero_add]

theorem flatF_nil : ∀ (ks : List Kt), (∀ x ∈ ks, x.ok) → (flatF ks).length = 0 → ks.length = 0
  | [], _, _ => rfl
  | x :: r, h, hl => by
    exfalso
    obtain ⟨hT, hf, _⟩ := h x (by simp)
    have := fm_pos hf hT.hl
    have e : flatF (x :: r) = x.F ++ flatF r := by simp [flatF]
    rw [e, List.length_append] at hl
    omega

/-- Behind so many reads of what is cut off at c. -/
def St (w : World) (b : Nat) (u : ByteArray) (a : Nat → Addr) (ks : List Kt) (c k : Nat) : Prop :=
  (Rd w b u ((flatF (ks.take k)).length : Nat) .nilIface 0 ∧ (flatF (ks.take k)).length ≤ c) ∨ ∃ p q : Int, Rd w b u p (sen (a 2)) q

theorem cut_step {B b : Nat} {u : ByteArray} {w : World} {a : Nat → Addr} {ks : List Kt} {c k : Nat} {x : Kt} (hS : Sent B w a) (hb : B ≤ b) (h : St w b u a ks c k) (hok : x.ok) (hx : ks[k]? = some x) (hu : u.data.toList = (flatF ks).take c) (hc : u.size = c) (hs : c ≤ 1000000000000) :
    Calls Tryd.prog 18 #[.pointer (some ⟨b, 0, none⟩), .agg x.A] w fun e w' => (∃ V, e = .returned (.agg V)) ∧ St w' b u a ks c (k + 1) ∧ Fr (fun j => j = b) w w' := by
  obtain ⟨hTf, hfm, hwt, htb⟩ := hok
  rcases h with ⟨h, hP⟩ | ⟨p, q, h⟩
  · obtain ⟨hd, hnx⟩ := flatF_take ks k x hx
    have hdu : u.data.toList.drop (flatF (ks.take k)).length = (x.F ++ flatF (ks.drop (k + 1))).take (c - (flatF (ks.take k)).length) := by rw [hu, List.drop_take, hd]
    by_cases hl : x.F.length ≤ c - (flatF (ks.take k)).length
    · rw [List.take_append, List.take_of_length_le hl] at hdu
      refine (took_k hS hb h (by omega) hTf hfm hwt htb hdu).mono ?_
      rintro e w' ⟨V, rfl, _, _, _, h', hf⟩
      exact ⟨⟨V, rfl⟩, .inl ⟨by rw [hnx]; exact h', by omega⟩, hf⟩
    · rw [List.take_append_of_le_length (by omega)] at hdu
      refine (took_cut hS hb h (by omega) (by omega) hTf hfm hwt htb (by omega) hdu).mono ?_
      rintro e w' ⟨V, rfl, h', hf⟩
      exact ⟨⟨V, rfl⟩, .inr h', hf⟩
  · refine (took_f h hTf.g).mono ?_
    rintro e w' ⟨⟨kk, wd', rfl⟩, h', hf⟩
    exact ⟨⟨_, rfl⟩, .inr ⟨p, q, h'⟩, hf.mono (fun _ _ f => f.elim)⟩

set_option maxRecDepth 100000 in
set_option maxHeartbeats 8000000 in
theorem cuts_any (w : World) (a : Nat → Addr) (v0 : Value) (n0 : Nat) (A0 : Nat → Array Value) (place : Int) (hS : Sent w.heap.size w a) (hT : Thf w v0 n0 A0) (hn0 : n0 ≤ 150000) (hp1 : -9223372036854775808 ≤ place) (hp2 : place ≤ 9223372036854775807) :
    Calls Tryd.prog 7 #[v0, .int .i64 place] w fun e w' => e = .returned (.bool true) ∧ Fr (fun _ => False) w w' := by
  go_enter Tryd.func7, Tryd.ntmps7
  go_wp2_with fail
  refine (lives_any _ w a hS).mono ?_
  rintro e w1 ⟨rfl, f1⟩
  have hs1 : Sent w1.heap.size w1 a := (hS.fr f1 (nofalse _)).up f1.size (Nat.le_refl _)
  have hT1 : Thf w1 v0 n0 A0 := ⟨hT.1, hT.2.fr f1 (fun _ _ f => f)⟩
  go_wp2_with fail
  refine (taken_any w1 a v0 n0 A0 hs1 hT1 hn0).mono ?_
  rintro e w2 ⟨ks, lv, rfl, hok, hown, f2, hfl, hkn⟩
  obtain ⟨s, hse⟩ : ∃ s : ByteArray, s = ⟨(flatF ks).toArray⟩ := ⟨_, rfl⟩
  have hsl : s.data.toList = flatF ks := by rw [hse]
  have hsz : s.size = (flatF ks).length := by rw [hse]; simp [ByteArray.size]
  rw [← hse]
  clear hse
  have hsb : s.size ≤ 1000000000000 := by
    have : ks.length * 1048608 ≤ 150000 * 1048608 := Nat.mul_le_mul_right _ (by omega)
    omega
  have hSL : Hid (s.data.toList = flatF ks) := hsl
  have hSZ : Hid (s.size = (flatF ks).length) := hsz
  clear hsl hsz hfl
  have hk2 : Tk w2 w2.heap.size lv ks := Tk.of hown (Nat.le_refl _) hok
  have hlv := hk2
  obtain ⟨ad, cap, rfl, _⟩ := hlv
  have g2 : Fr (fun _ => False) w w2 := f1.trans f2 (fun _ _ q => q)
  have hknm : ks.length ≤ 150000 := by omega
  by_cases hz : s.size = 0
  · have hk0 : ks.length = 0 := flatF_nil ks hok (by rw [← hSZ.out]; exact hz)
    rw [hk0]
    have hz' : (s.size : Int) = 0 := by omega
    go_wp2_with fail
    go_ret
    exact ⟨rfl, g2⟩
  · have hz' : ¬ ((s.size : Int) = 0) := by omega
    have hpos : 0 < s.size := by omega
    have e1 := Int.emod_nonneg place hz'
    have e2 := Int.emod_lt_of_pos place (show (0 : Int) < s.size by omega)
    obtain ⟨c, hc⟩ : ∃ c : Nat, place % (s.size : Int) = c := ⟨(place % (s.size : Int)).toNat, by omega⟩
    have hcs : c < s.size := by omega
    have hrd : ∀ W, Calls Tryd.prog 10 #[.int .i64 place, .int .i64 s.size] W fun e w' => e = .returned (.int .i64 (c : Int)) ∧ w' = W := fun W => by
      have := round_n place s.size W hp1 hp2 hpos hsb
      rwa [hc] at this
    have sl := cut_slice s c (by omega)
    obtain ⟨u, hue⟩ : ∃ u, u = sub s 0 c := ⟨_, rfl⟩
    have hul : u.data.toList = (flatF ks).take c := by rw [hue, sub_list, List.drop_zero, hSL.out]
    have hus : u.size = c := by rw [hue]; exact sub_size s 0 c (by omega)
    rw [← hue] at sl
    have HU : Hid (u.data.toList = (flatF ks).take c) := hul
    clear hue hul e1 e2 hc
    have husm : u.size ≤ maxLen := by unfold maxLen; omega
    go_wp2_with fail
    refine (hrd _).mono ?_
    rintro e w3 ⟨rfl, rfl⟩
    go_wp2_with fail
    refine (newR u _).mono ?_
    rintro e w4 ⟨rfl, h4, f4, z4⟩
    have l1 : w.heap.size ≤ w3.heap.size := g2.size
    have hk4 := hk2.fr f4 (fun _ _ f => f)
    have g4 := g2.trans f4 (fun _ _ q => q)
    have hst : St w4 w3.heap.size u a ks c 0 := .inl ⟨h4, by simp [flatF]⟩
    clear h4
    go_wp2_with fail
    go_loopw [8] (fun i wr => ∃ (k : Nat), k ≤ ks.length ∧ i = .int .i64 k ∧ St wr w3.heap.size u a ks c k ∧ Tk wr w3.heap.size (.slice ad ks.length cap) ks ∧ Fr (fun _ => False) w wr) (fun i _ => ks.length - (intOf i).toNat)
    case atStart => exact ⟨0, by omega, rfl, hst, hk4, g4⟩
    case round =>
      obtain ⟨k, hk, rfl, hR, hTk, gr⟩ := hrel
      have hsr := hS.fr gr (nofalse _)
      by_cases hlt : k < ks.length
      · obtain ⟨x, hx⟩ : ∃ x, ks[k]? = some x := ⟨_, List.getElem?_eq_getElem hlt⟩
        have hxo := hok x (List.mem_of_getElem? hx)
        have hTk2 := hTk
        obtain ⟨_, _, he, hxx⟩ := hTk2
        obtain ⟨g, off, rfl, hg1, hgl, hcl⟩ := hxx (by omega)
        have hck := hcl k x hx
        injection he with e1 e2 e3
        subst e1 e3
        clear hcl hxx e2
        have hkn' : (k : Int) < ks.length := by omega
        have hs37 := hxo.1.g.size
        go_wp2_with (refine wp_load_cells rfl (.tmp 38) 34 37 rfl Tryd.isAgg34 Tryd.sizeOf34 g (off + k * 37) rfl x.A hs37 hck ?_)
        refine (cut_step hsr l1 hR hxo hx HU.out hus (by omega)).mono ?_
        rintro e w5 ⟨⟨V, rfl⟩, h5, f5⟩
        have hT5 := hTk.fr f5 (fun k hk q => by omega)
        have gr5 : Fr (fun _ => False) w w5 := gr.trans f5 (fun k hk q => by omega)
        go_wp2_with fail
        go_roundw
        case rel => exact ⟨k + 1, by omega, by go_num, h5, hT5, gr5⟩
        case measure => simp [intOf]; omega
      · have hge : ¬ ((k : Int) < ks.length) := by omega
        obtain rfl : k = ks.length := by omega
        obtain ⟨p, q, hR⟩ : ∃ p q : Int, Rd wr w3.heap.size u p (sen (a 2)) q := by
          rcases hR with ⟨_, hR⟩ | hR
          · rw [List.take_length, ← hSZ.out] at hR; omega
          · exact hR
        go_wp2_with fail
        refine (end_f hsr 2 (by omega) (by omega) hR).mono ?_
        rintro e w5 ⟨⟨t5, u5, rfl, ev5⟩, f5⟩
        have g5 := gr.trans f5 (fun _ _ q => q)
        have h5 := hR.fr f5 (fun f => f)
        go_wp2_with fail
        refine (code_any (hS.fr g5 (nofalse _)) ev5).mono ?_
        rintro e w6 ⟨rfl, f6⟩
        have h6 := h5.fr f6 (fun f => f)
        go_wp2_with fail
        refine (left_no _ u p q (a 2) w6 h6).mono ?_
        rintro e w7 ⟨rfl, rfl⟩
        go_wp2_with fail
        go_ret
        exact ⟨rfl, g5.trans f6 (fun _ _ q => q)⟩
end Go.Proofs.YtlkkadkdanjfoaaDoor
