/- tile: the number of digits; digits without the marks between them. -/
import Derived.Test.YtgobdjdaehlgdaaGreatDoorU7
namespace Go.Proofs.YtgobdjdaehlgdaaGreatDoor
open Go.RowKit
open Go.Lib (decDigits nDigits)
set_option linter.unusedVariables false
set_option linter.unusedSimpArgs false
/-- The number of some digits; 0, if they are none's. -/
def num (X : List UInt8) : Nat := match TX.fromdec (Lib.trimLeftB X 48) with
  | .ok n => n
  | .error _ => 0
theorem conv_byl {w : World} {v : Value} {X : List UInt8} (h : Byl w v X) : (convert 92 9 v).run Tryz.prog w = .ok (.string ⟨X.toArray⟩) w := by
  rcases h with ⟨rfl, rfl⟩ | ⟨b, o, c, rfl, _, _, hc⟩
  · kernel_rfl
  · refine run_convert_bytes_back w _ _ 5 ⟨b, o, none⟩ c X Tryz.underlying92 Tryz.underlying5 Tryz.underlying9 (fun j hj => ?_)
    rw [addO]
    exact hc j X[j] (List.getElem?_eq_getElem hj)
theorem rd_fst {s : ByteArray} (hs : s.size ≤ 1000000) (r : Except Nat Nat) : (TX.rd 0 s r).1 = (match r with | .ok n => n | .error _ => 0) ∧ (match r with | .ok _ => (TX.rd 0 s r).2.1 = 0 | .error _ => (TX.rd 0 s r).2.1 = 3) := by
  cases r with
  | ok n => rw [TX.rd_ok _ _ _ (by omega) n rfl]; exact ⟨rfl, rfl⟩
  | error k => rw [TX.rd_err _ _ _ (by omega) k rfl]; exact ⟨rfl, rfl⟩
theorem trim_len (X : List UInt8) (c : UInt8) : (Lib.trimLeftB X c).length ≤ X.length := by
  unfold Lib.trimLeftB
  exact (List.dropWhile_sublist _).length_le
set_option maxRecDepth 100000 in
set_option maxHeartbeats 1000000 in
theorem number_any (X : List UInt8) (hX : X.length ≤ 1000000) (v : Value) (w : World) (hv : Byl w v X) {B : Nat} {a : Nat → Addr} (hS : Sent B w a) :
    Calls Tryz.prog 131 #[v] w fun e w' => e = .returned (.int .u64 (num X : Int)) ∧ Nw w w' := by
  have hcv := conv_byl hv
  have q1 := Tryz.strings_TrimLeft_one ⟨X.toArray⟩ 48 (by decide) w
  rw [bx] at q1
  obtain ⟨s, hs⟩ : ∃ s, s = (⟨(Lib.trimLeftB X 48).toArray⟩ : ByteArray) := ⟨_, rfl⟩
  have hsl : s.size ≤ 1000000 := by rw [hs, bxs]; have := trim_len X 48; omega
  have q2 := TX.fromdec_any hS s (by omega)
  have hsd : s.data.toList = Lib.trimLeftB X 48 := by rw [hs, bx]
  rw [hsd] at q2
  rw [← hs] at q1
  have hr := rd_fst hsl (TX.fromdec (Lib.trimLeftB X 48))
  unfold num
  obtain ⟨r, hre⟩ : ∃ r, r = TX.fromdec (Lib.trimLeftB X 48) := ⟨_, rfl⟩
  rw [← hre] at q2 hr ⊢
  obtain ⟨p, c, rfl⟩ := hv.form
  clear hv hS hsd hs hre
  cases r with
  | ok n =>
    simp only at hr
    rw [hr.1, hr.2] at q2
    go_enter Tryz.func131, Tryz.ntmps131
    go_wp2_with fail
    refine q1.mono ?_
    rintro e w1 ⟨rfl, rfl⟩
    go_wp2_with fail
    refine q2.mono ?_
    rintro e w2 ⟨v2, rfl, ev, n2⟩
    have hv2 : v2 = .nilIface := by
      rcases ev with ⟨h, _⟩ | ⟨j, _, _, h, _⟩ | ⟨j, _, _, _, _, _, h, _⟩
      · exact h
      · omega
      · omega
    subst hv2
    clear hcv q1 q2 ev
    go_wp2
    go_ret
    exact ⟨rfl, n2⟩
  | error k =>
    simp only at hr
    rw [hr.1, hr.2] at q2
    go_enter Tryz.func131, Tryz.ntmps131
    go_wp2_with fail
    refine q1.mono ?_
    rintro e w1 ⟨rfl, rfl⟩
    go_wp2_with fail
    refine q2.mono ?_
    rintro e w2 ⟨v2, rfl, ev, n2⟩
    obtain ⟨t, u, hv2, _⟩ : ∃ t u, v2 = .iface t u ∧ True := by
      rcases EV.form ev with ⟨_, h⟩ | ⟨t, u, h, _⟩
      · omega
      · exact ⟨t, u, h, trivial⟩
    subst hv2
    clear hcv q1 q2 ev
    go_wp2
    go_ret
    exact ⟨rfl, n2⟩
end Go.Proofs.YtgobdjdaehlgdaaGreatDoor
