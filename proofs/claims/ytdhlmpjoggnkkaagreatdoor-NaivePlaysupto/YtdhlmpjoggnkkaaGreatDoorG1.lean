/- grown of the law's package: a log with these leaves. -/
import Derived.Test.YtdhlmpjoggnkkaaGreatDoorHq
namespace Go.Proofs.YtdhlmpjoggnkkaaGreatDoor
open Go.RowKit
set_option linter.unusedVariables false
set_option linter.unusedSimpArgs false

/-- One leaf more, if it may be. -/
def kstep (acc : List ByteArray) (x : ByteArray) : List ByteArray := if 65536 < x.size ∨ 1048576 ≤ acc.length then acc else acc ++ [x]
/-- The leaves that a log takes. -/
def kp (ss : List ByteArray) : List ByteArray := ss.foldl kstep []
theorem kp_step {ss : List ByteArray} {k : Nat} {x : ByteArray} (h : ss[k]? = some x) : kp (ss.take (k + 1)) = kstep (kp (ss.take k)) x := by
  unfold kp
  rw [List.take_add_one, h, Option.toList_some, List.foldl_append]; rfl
set_option maxRecDepth 100000 in
set_option maxHeartbeats 2000000 in
theorem grown_any (p : Option Addr) (c : Nat) (ss : List ByteArray) (w : World) (hp : Strs w p ss) (hx : ∀ x ∈ ss, x.size ≤ 140737488355328) (hl : ss.length ≤ 140737488355328) {B : Nat} {a : Nat → Addr} (hS : Sent B w a) :
    Calls Tryz.prog 95 #[.slice p ss.length c] w fun e w' => ∃ b base v, e = .returned (.tuple #[.pointer (some ⟨b, 0, none⟩), .int .i64 ((kp ss).length : Int), .bool true]) ∧ Lg w' b base v (kp ss) ∧ w.heap.size ≤ b ∧ Nw w w' := by
  have HP : Hid (Strs w p ss) := hp
  have HX : Hid (∀ x ∈ ss, x.size ≤ 140737488355328) := hx
  have HS : Hid (Sent B w a) := hS
  clear hp hx hS
  obtain ⟨n, hn⟩ : ∃ n, n = ss.length := ⟨_, rfl⟩
  rw [← hn] at hl ⊢
  have Hn : Hid (n = ss.length) := hn
  clear hn
  go_enter Tryz.func95, Tryz.ntmps95
  go_wp2_with fail
  refine (new_any w).mono ?_
  rintro e w1 ⟨rfl, L1, s1, n1⟩
  obtain ⟨b, hb⟩ : ∃ b, b = w.heap.size := ⟨_, rfl⟩
  rw [← hb] at L1 ⊢
  have HL1 : Hid (Lg w1 b (b + 1) (.slice none 0 0) []) := L1
  have HN1 : Hid (Nw w w1) := n1
  have HB : Hid (b = w.heap.size) := hb
  clear L1 n1 hb s1
  go_wp2_with fail
  go_loopw [6, 7] (fun m i wr => ∃ (k : Nat) (v : Value), k ≤ n ∧ i = .int .i64 k ∧ m = .int .i64 ((kp (ss.take k)).length : Int) ∧ Lg wr b (b + 1) v (kp (ss.take k)) ∧ Nw w wr) (fun _ i _ => n - (intOf i).toNat)
  case atStart => exact ⟨0, _, by omega, rfl, rfl, HL1.out, HN1.out⟩
  case round =>
    obtain ⟨k, v, hk, rfl, rfl, hL, hnw⟩ := hrel
    have HL : Hid (Lg wr b (b + 1) v (kp (ss.take k))) := hL
    have HW : Hid (Nw w wr) := hnw
    have hle := hL.len
    clear hL hnw
    by_cases hlt : k < n
    · obtain ⟨x, hx⟩ : ∃ x, ss[k]? = some x := ⟨_, List.getElem?_eq_getElem (by rw [← Hn.out]; exact hlt)⟩
      have hxs := HX.out x (List.mem_of_getElem? hx)
      obtain ⟨g, o, hp, g1⟩ := HP.out k x hx
      subst hp
      have c1 := HW.out.cellOf g1
      have lg := World.block_lt_of_cell? _ _ c1
      simp only at lg
      have HK : Hid (kp (ss.take (k + 1)) = kstep (kp (ss.take k)) x) := kp_step hx
      have lg0 := World.block_lt_of_cell? _ _ g1
      simp only at lg0
      clear hx
      have hki : (k : Int) < (n : Int) := by omega
      obtain ⟨M, hM⟩ : ∃ M, M = kp (ss.take k) := ⟨_, rfl⟩
      rw [← hM] at HL hle HK
      simp only [← hM]
      clear hM
      by_cases hbig : 65536 < x.size ∨ 1048576 ≤ M.length
      · have q := append_lim HL.out x (by omega) hbig (HS.out.fr HW.out (fun _ _ f => f))
        have hKe : Hid (kp (ss.take (k + 1)) = M) := by rw [HK.out, kstep, if_pos hbig]; exact rfl
        have hw : decide ((65536 : Int) < (x.size : Int)) = true ∨ (decide ((65536 : Int) < (x.size : Int)) = false ∧ decide ((1048576 : Int) ≤ (M.length : Int)) = true) := by
          by_cases h1 : 65536 < x.size
          · exact .inl (by simp; omega)
          · exact .inr ⟨by simp; omega, by simp; omega⟩
        have QI : Hid (∀ W, Nw w W → Calls Tryz.prog 39 #[sen (a 3), .int .i64 4] W fun e w' => e = .returned (.bool true) ∧ Nw W w') := fun W hW => by
          have hsb : sameB 4 none 4 (-1) = true := by decide
          have q := isE_any (HS.out.fr hW (fun _ _ f => f)) (show EV W a (sen (a 3)) 4 none from .inr (.inl ⟨3, by decide, rfl, rfl, rfl⟩)) 4
          rw [hsb] at q
          exact q
        clear hbig
        go_wp2_with fail
        refine q.mono ?_
        rintro e w2 ⟨rfl, n2⟩
        have c2 := n2.cellOf c1
        have lg2 := Nat.lt_of_lt_of_le lg n2.size
        have N2 : Hid (Nw w w2) := HW.out.tr n2
        have L2 : Hid (Lg w2 b (b + 1) v M) := HL.out.nw n2
        clear n2 q
        rcases hw with hw | ⟨hw1, hw2⟩
        all_goals
          go_wp2_with fail
          refine (QI.out _ N2.out).mono ?_
          rintro e w3 ⟨rfl, n3⟩
          go_wp2
          exact ⟨⟨k + 1, v, by omega, by go_num, by rw [hKe.out], by rw [hKe.out]; exact L2.out.nw n3, N2.out.tr n3⟩, by simp [intOf]; omega⟩
      · have q := append_yes HL.out x (by omega) (by omega)
        have hKe : Hid (kp (ss.take (k + 1)) = M ++ [x]) := by rw [HK.out, kstep, if_neg hbig]; exact rfl
        have hw1 : decide ((65536 : Int) < (x.size : Int)) = false := by simp; omega
        have hw2 : decide ((1048576 : Int) ≤ (M.length : Int)) = false := by simp; omega
        have hml : Hid (M.length < 1048576) := by unfold Hid; omega
        clear hbig
        go_wp2_with fail
        refine q.mono ?_
        rintro e w2 ⟨rfl, v2, l2, s2, f2⟩
        have f2' : Fr (fun k => w.heap.size ≤ k) wr w2 := f2.mono (fun j _ h => by
          have := HB.out
          rcases h with h | h
          · omega
          · have := (HL.out.own.lt j h).1; omega)
        have N2 : Hid (Nw w w2) := HW.out.trans f2' (fun j hj h => by omega)
        have c2 := N2.out.cellOf g1
        have lg2 := Nat.lt_of_lt_of_le lg0 N2.out.size
        have L2 : Hid (Lg w2 b (b + 1) v2 (M ++ [x])) := l2
        clear f2 f2' l2 s2 q
        have hne : ((M.length : Int) == (M.length : Int)) = true := by simp
        go_wp2
        exact ⟨⟨k + 1, v2, by omega, by go_num, by rw [hKe.out, List.length_append]; go_num, by rw [hKe.out]; exact L2.out, N2.out⟩, by simp [intOf]; omega⟩
    · obtain rfl : k = n := by omega
      have hT : Hid (ss.take k = ss) := by
        have := Hn.out
        exact List.take_of_length_le (by omega)
      rw [hT.out] at HL hle ⊢
      have q := lsize_any HL.out
      have hkn : ¬ (k : Int) < (k : Int) := by omega
      go_wp2_with fail
      refine q.mono ?_
      rintro e w2 ⟨rfl, rfl⟩
      clear q
      go_wp2
      exact bodyPost_ret (v := .tuple #[.pointer (some ⟨b, 0, none⟩), .int .i64 ((kp ss).length : Int), .bool true]) (by simp [results, Tryz.results95]) rfl ⟨b, _, v, rfl, HL.out, by have := HB.out; omega, HW.out⟩
end Go.Proofs.YtdhlmpjoggnkkaaGreatDoor
