/- plan: PlanRows: the parts are the stretches' covers. -/
import Derived.Test.YtlaiomgebkeldaaDoorYj
import Derived.Test.YtlaiomgebkeldaaDoorYg
namespace Go.Proofs.YtlaiomgebkeldaaDoor
open Go.RowKit
set_option linter.unusedVariables false
set_option linter.unusedSimpArgs false
theorem isjR {w : World} {B : Nat} {a : Nat → Addr} (hS : Sent B w a) (j : Nat) (hj : j < 16) (m : Int) (hm : m = ((j + 1 : Nat) : Int)) (W : World) (hW : Nw w W) : Calls Tryd.prog 34 #[sen (a j), .int .i64 m] W fun e w' => e = .returned (.bool true) ∧ Nw W w' := by
  subst hm
  have hsb : sameB (j + 1) none ((j + 1 : Nat) : Int) (-1) = true := by simp [sameB]
  have q := isE_any (hS.fr hW (fun _ _ f => f)) (show EV W a (sen (a j)) (j + 1) none from .inr (.inl ⟨j, hj, rfl, rfl, rfl⟩)) ((j + 1 : Nat) : Int)
  rw [hsb] at q
  exact q
set_option maxHeartbeats 2000000 in
theorem covers_no {w : World} {B : Nat} {a : Nat → Addr} (hS : Sent B w a) (V : World) (hV : Nw w V) :
    Calls Tryd.prog 25 #[.slice none 0 0, sen (a 4), .slice none 0 0, sen (a 4)] V fun e w' => e = .returned (.bool true) ∧ Nw V w' := by
  have HQ : Hid (∀ W, Nw V W → Calls Tryd.prog 34 #[sen (a 4), .int .i64 5] W fun e w' => e = .returned (.bool true) ∧ Nw W w') := fun W nW => isjR hS 4 (by decide) 5 rfl W (hV.tr nW)
  clear hS hV
  go_enter Tryd.func25, Tryd.ntmps25
  go_wp2_with fail
  refine (HQ.out _ (nwr V)).mono ?_
  rintro e w1 ⟨rfl, n1⟩
  go_wp2_with fail
  refine (HQ.out _ n1).mono ?_
  rintro e w2 ⟨rfl, n2⟩
  go_wp2
  go_ret
  exact ⟨rfl, n1.tr n2⟩
set_option maxRecDepth 100000 in
set_option maxHeartbeats 2000000 in
theorem covers_yes (u v : Value) (l : List (Nat × Nat)) (w : World) (hu : Spn w u l) (hv : Prt w v (l.map cvr)) (hl : l.length ≤ 1000) (hok : ∀ s ∈ l, s.1 ≤ s.2 ∧ s.2 ≤ 9223372036854775808) (hT : TabAt w) :
    Calls Tryd.prog 25 #[u, .nilIface, v, .nilIface] w fun e w' => e = .returned (.bool true) ∧ Nw w w' := by
  obtain ⟨ad, ca, rfl, hu⟩ := hu
  obtain ⟨bd, cb, rfl, hv⟩ := hv
  have HU : Hid (∀ k t, l[k]? = some t → ∃ g off, ad = some ⟨g, off, none⟩ ∧ g < w.heap.size ∧ w.cell? ⟨g, off + k * 2, none⟩ = some (.int .u64 (t.1 : Int)) ∧ w.cell? ⟨g, off + k * 2 + 1, none⟩ = some (.int .u64 (t.2 : Int))) := hu
  have HV : Hid (∀ k m, (l.map cvr)[k]? = some m → ∃ g off x, bd = some ⟨g, off, none⟩ ∧ g < w.heap.size ∧ w.cell? ⟨g, off + k, none⟩ = some x ∧ Crd w x m) := hv
  have HT : Hid (TabAt w) := hT
  have HOK : Hid (∀ s ∈ l, s.1 ≤ s.2 ∧ s.2 ≤ 9223372036854775808) := hok
  rw [List.length_map]
  clear hu hv hT hok
  obtain ⟨n, hn⟩ : ∃ n, n = l.length := ⟨_, rfl⟩
  have HN : Hid (n = l.length) := hn
  rw [← hn] at hl ⊢
  clear hn
  go_enter Tryd.func25, Tryd.ntmps25
  go_wp2
  go_loopw [9] (fun i wr => ∃ k : Nat, k ≤ n ∧ i = .int .i64 k ∧ Nw w wr) (fun i _ => n - (intOf i).toNat)
  case atStart => exact ⟨0, by omega, rfl, nwr w⟩
  case round =>
    obtain ⟨k, hk, rfl, hnw⟩ := hrel
    by_cases hlt : k < n
    · obtain ⟨t, ht⟩ : ∃ t, l[k]? = some t := ⟨_, List.getElem?_eq_getElem (by rw [← HN.out]; exact hlt)⟩
      obtain ⟨g, off, rfl, g1, g2, g3⟩ := HU.out k t ht
      obtain ⟨x, y⟩ := t
      obtain ⟨p, of2, z, rfl, p1, p2, p3⟩ := HV.out k (cov x y) (by rw [List.getElem?_map, ht]; rfl)
      have g2' := hnw.cellOf g2
      have g3' := hnw.cellOf g3
      obtain ⟨o1, o2⟩ := HOK.out _ (List.mem_of_getElem? ht)
      have hcl : (cov x y).length ≤ 128 := cov_len x y (by rw [p63]; exact o2)
      have p2' := hnw.cellOf p2
      have HP3 : Hid (Crd wr z (cov x y)) := p3.nw hnw
      have HW : Hid (Nw w wr) := hnw
      clear g2 g3 p2 p3 ht hnw
      have hki : (k : Int) < (n : Int) := by omega
      go_wp2_with fail
      refine (cover_yes x y o1 o2 _ (HT.out.nw HW.out)).mono ?_
      rintro e w1 ⟨v1, rfl, q1, n1⟩
      have HC1 : Hid (Crd w1 v1 (cov x y)) := Crd.of q1
      obtain ⟨va, vc, rfl⟩ := ownsRow_form q1
      have N1 : Hid (Nw wr w1) := n1
      have p4 := n1.cellOf p2'
      clear q1 n1 g2' g3' p2'
      go_wp2_with fail
      refine (same_yes _ _ (cov x y) _ HC1.out (HP3.out.nw N1.out) (by omega)).mono ?_
      rintro e w2 ⟨rfl, n2⟩
      have N2 : Hid (Nw w w2) := (HW.out.tr N1.out).tr n2
      clear n2
      go_wp2
      exact ⟨⟨k + 1, by omega, by go_num, N2.out⟩, by simp [intOf]; omega⟩
    · obtain rfl : k = n := by omega
      go_wp2
      go_ret
      exact ⟨rfl, hnw⟩
/-- What shape and plan answer, and that the one covers the other. -/
abbrev Rws2 (w : World) (f1 f2 : Nat) (args : Array Value) : Prop :=
  ∀ W, Nw w W → Calls Tryd.prog f1 args W fun x w1 => ∃ s e, x = .returned (.tuple #[s, e]) ∧ Nw W w1 ∧
    ∀ W2, Nw w1 W2 → Calls Tryd.prog f2 args W2 fun y w2 => ∃ p f, y = .returned (.tuple #[p, f]) ∧ Nw W2 w2 ∧
      ∀ V, Nw w2 V → Calls Tryd.prog 25 #[s, e, p, f] V fun z w' => z = .returned (.bool true) ∧ Nw V w'
theorem rows_path (i n : Nat) (hi : i < 18446744073709551616) (hn : n < 18446744073709551616) (w : World) (hT : TabAt w) {B : Nat} {a : Nat → Addr} (hS : Sent B w a) : Rws2 w 24 17 #[.int .u64 (i : Int), .int .u64 (n : Int)] := by
  intro W nW
  by_cases h : i < n ∧ n ≤ 9223372036854775808
  · refine (path_yes i n h.1 h.2 W).mono ?_
    rintro x w1 ⟨v, rfl, o1, n1⟩
    refine ⟨v, .nilIface, rfl, n1, fun W2 n2 => ?_⟩
    refine (ppath_yes i n h.1 h.2 W2 (hT.nw ((nW.tr n1).tr n2))).mono ?_
    rintro y w2 ⟨p, xs, rfl, q, n3⟩
    exact ⟨p, .nilIface, rfl, n3, fun V n4 => covers_yes v p (pth i 0 n) V ((Spn.of o1).nw ((n2.tr n3).tr n4)) ((Prt.of q).nw n4) (Nat.le_trans (pth_len 63 i 0 n (by rw [p63]; omega)) (by omega)) (fun s hs => by have := pth_mem n i 0 n (by omega) s hs; omega) (hT.nw ((((nW.tr n1).tr n2).tr n3).tr n4))⟩
  · refine (path_no i n h hi hn W (hS.fr nW (fun _ _ f => f))).mono ?_
    rintro x w1 ⟨rfl, n1⟩
    refine ⟨_, _, rfl, n1, fun W2 n2 => ?_⟩
    refine (ppath_no i n h hi hn W2 (hS.fr ((nW.tr n1).tr n2) (fun _ _ f => f))).mono ?_
    rintro y w2 ⟨rfl, n3⟩
    exact ⟨_, _, rfl, n3, fun V n4 => covers_no hS V ((((nW.tr n1).tr n2).tr n3).tr n4)⟩
theorem rows_proof (i n : Nat) (hi : i < 18446744073709551616) (hn : n < 18446744073709551616) (w : World) (hT : TabAt w) {B : Nat} {a : Nat → Addr} (hS : Sent B w a) : Rws2 w 26 20 #[.int .u64 (i : Int), .int .u64 (n : Int)] := by
  intro W nW
  by_cases h : 0 < i ∧ i ≤ n ∧ n ≤ 9223372036854775808
  · obtain ⟨h0, h1, h2⟩ := h
    refine (proof_yes i n h0 h1 h2 W).mono ?_
    rintro x w1 ⟨v, rfl, o1, n1⟩
    refine ⟨v, .nilIface, rfl, n1, fun W2 n2 => ?_⟩
    refine (pproof_yes i n h0 h1 h2 W2 (hT.nw ((nW.tr n1).tr n2))).mono ?_
    rintro y w2 ⟨p, xs, rfl, q, n3⟩
    exact ⟨p, .nilIface, rfl, n3, fun V n4 => covers_yes v p (prf i 0 n true) V ((Spn.of o1).nw ((n2.tr n3).tr n4)) ((Prt.of q).nw n4) (Nat.le_trans (prf_len 63 i 0 n true (by rw [p63]; omega) h0 h1) (by omega)) (fun s hs => by have := prf_mem n i 0 n true (by omega) h0 h1 s hs; omega) (hT.nw ((((nW.tr n1).tr n2).tr n3).tr n4))⟩
  · refine (proof_no i n h hi hn W (hS.fr nW (fun _ _ f => f))).mono ?_
    rintro x w1 ⟨rfl, n1⟩
    refine ⟨_, _, rfl, n1, fun W2 n2 => ?_⟩
    refine (pproof_no i n h hi hn W2 (hS.fr ((nW.tr n1).tr n2) (fun _ _ f => f))).mono ?_
    rintro y w2 ⟨rfl, n3⟩
    exact ⟨_, _, rfl, n3, fun V n4 => covers_no hS V ((((nW.tr n1).tr n2).tr n3).tr n4)⟩
theorem rows_batch (i j n : Nat) (hi : i < 18446744073709551616) (hj : j < 18446744073709551616) (hn : n < 18446744073709551616) (w : World) (hT : TabAt w) {B : Nat} {a : Nat → Addr} (hS : Sent B w a) : Rws2 w 27 22 #[.int .u64 (i : Int), .int .u64 (j : Int), .int .u64 (n : Int)] := by
  intro W nW
  by_cases h : i < j ∧ j ≤ n ∧ n ≤ 9223372036854775808
  · obtain ⟨h0, h1, h2⟩ := h
    refine (batch_yes i j n h0 h1 h2 W).mono ?_
    rintro x w1 ⟨v, rfl, o1, n1⟩
    refine ⟨v, .nilIface, rfl, n1, fun W2 n2 => ?_⟩
    refine (pbatch_yes i j n h0 h1 h2 W2 (hT.nw ((nW.tr n1).tr n2))).mono ?_
    rintro y w2 ⟨p, xs, rfl, q, n3⟩
    exact ⟨p, .nilIface, rfl, n3, fun V n4 => covers_yes v p (bat i j 0 n) V ((Spn.of o1).nw ((n2.tr n3).tr n4)) ((Prt.of q).nw n4) (Nat.le_trans (bat_len 63 i j 0 n (by rw [p63]; omega)) (by omega)) (fun s hs => by have := bat_mem n i j 0 n (by omega) (by omega) s hs; omega) (hT.nw ((((nW.tr n1).tr n2).tr n3).tr n4))⟩
  · refine (batch_no i j n h hi hj hn W (hS.fr nW (fun _ _ f => f))).mono ?_
    rintro x w1 ⟨rfl, n1⟩
    refine ⟨_, _, rfl, n1, fun W2 n2 => ?_⟩
    refine (pbatch_no i j n h hi hj hn W2 (hS.fr ((nW.tr n1).tr n2) (fun _ _ f => f))).mono ?_
    rintro y w2 ⟨rfl, n3⟩
    exact ⟨_, _, rfl, n3, fun V n4 => covers_no hS V ((((nW.tr n1).tr n2).tr n3).tr n4)⟩
end Go.Proofs.YtlaiomgebkeldaaDoor
