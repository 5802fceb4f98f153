/- What Lines answers. -/
import Derived.Test.YtebbgpnhkpbefaaGreatDoorA10
import Derived.Test.YtebbgpnhkpbefaaGreatDoorM5
namespace Go.Proofs.YtebbgpnhkpbefaaGreatDoor
open Go.RowKit
set_option linter.unusedVariables false
set_option linter.unusedSimpArgs false

abbrev lfB : ByteArray := ⟨#[10]⟩
theorem res3cut (tmps : Array Value) (w : World) : (results Tryz.f79 tmps).run Tryz.prog w = .ok (.tuple #[tmps.getD 4 undef, tmps.getD 5 undef, tmps.getD 6 undef]) w := by simp [results, Tryz.results79]
theorem res3Cut (tmps : Array Value) (w : World) : (results Tryz.f17 tmps).run Tryz.prog w = .ok (.tuple #[tmps.getD 4 undef, tmps.getD 5 undef, tmps.getD 6 undef]) w := by simp [results, Tryz.results17]
set_option maxHeartbeats 1000000 in
theorem cut0 (s : ByteArray) (i : Nat) (w : World) (hs : s.size ≤ 9223372036854775807) (hi : Lib.indexByte s.data.toList 10 = i) (hil : i < s.size) :
    Calls Tryz.prog 79 #[.string s, .string lfB] w fun e w' => e = .returned (.tuple #[.string (s.extract 0 i), .string (s.extract (i + 1) s.size), .bool true]) ∧ Nw w w' := by
  have hix := Tryz.stringslite_Index_one s 10 w
  rw [hi] at hix
  have h1 := head_slice s i (by omega)
  have h2 : ∀ W, (Instr.slice 9 (.string s) (some (.int .i64 ((i : Int) + 1))) none none).run Tryz.prog W = .ok (.string (s.extract (i + 1) s.size)) W := fun W => by
    rw [run_slice_string_from_if _ _ _ _ _ Tryz.underlying9, if_pos (by omega)]; rfl
  have hge : (0 : Int) ≤ (i : Int) := by omega
  go_enter Tryz.func79, Tryz.ntmps79
  go_wp2_with (go_at_call 123; refine hix.mono ?_; rintro e w1 ⟨rfl, rfl⟩)
  go_quiet (fail)
  go_wp2
  exact bodyPost_ret (res3cut _ _) rfl ⟨rfl, (Fr.refl _ _).drewN _⟩
theorem cut_any (s : ByteArray) (i : Nat) (w : World) (hs : s.size ≤ 9223372036854775807) (hi : Lib.indexByte s.data.toList 10 = i) (hil : i < s.size) :
    Calls Tryz.prog 17 #[.string s, .string lfB] w fun e w' => e = .returned (.tuple #[.string (s.extract 0 i), .string (s.extract (i + 1) s.size), .bool true]) ∧ Nw w w' := by
  have h0 := cut0 s i w hs hi hil
  go_enter Tryz.func17, Tryz.ntmps17
  go_wp2_with (go_at_call 79; refine h0.mono ?_; rintro e w1 ⟨rfl, hn⟩)
  exact bodyPost_ret (res3Cut _ _) rfl ⟨rfl, hn⟩
theorem clone_any (s : ByteArray) (w : World) (hs : s.size ≤ 281474976710656) : Calls Tryz.prog 18 #[.string s] w fun e w' => e = .returned (.string s) ∧ Nw w w' := by
  have h0 := Tryz.stringslite_Clone s w hs
  go_enter Tryz.func18, Tryz.ntmps18
  go_wp2_with (go_at_call 80; refine h0.mono ?_; rintro e w1 ⟨rfl, hb⟩)
  go_ret
  exact ⟨rfl, Fr.ofBelow hb⟩
/-- A text as a value. -/
abbrev sv (l : List UInt8) : Value := .string ⟨l.toArray⟩
/-- A row of texts of the call's own, from block B on. -/
abbrev OwnS (B : Nat) (w : World) (v : Value) (ls : List (List UInt8)) : Prop := w.ownsRow B 9 1 v ls.length (ls.map sv)
theorem infoS : (Tryz.prog.info? 9).map (fun i => (i.zero, i.size, i.bytes)) = some (some (.string ⟨#[]⟩), 1, 16) := by kernel_rfl
theorem info_partsS : ∃ i, Tryz.prog.info? 9 = some i ∧ i.zero = some (.string ⟨#[]⟩) ∧ i.size = 1 ∧ i.bytes = 16 := by
  obtain ⟨i, hi, he⟩ := Option.map_eq_some_iff.1 infoS
  simp only [Prod.mk.injEq] at he
  exact ⟨i, hi, he.1, he.2.1, he.2.2⟩
theorem make_ownS (B : Nat) (w : World) (c : Nat) (hc : c ≤ 1048576) (hB : B ≤ w.heap.size) : ∃ w', (Instr.makeSlice 22 (.int .i64 0) (.int .i64 (c : Int))).run Tryz.prog w = .ok (.slice (some ⟨w.heap.size, 0, none⟩) 0 c) w' ∧ OwnS B w' (.slice (some ⟨w.heap.size, 0, none⟩) 0 c) [] ∧ Nw w w' := by
  obtain ⟨i0, hi, hz0, hz1, hz2⟩ := info_partsS
  obtain ⟨w', h1, h2, h3⟩ := run_make_own (P := Tryz.prog) w B 22 9 i0 (.string ⟨#[]⟩) 1 Tryz.underlying22 hi hz0 hz1 .i64 .i64 c (by rw [hz2]; omega) (by unfold maxLen; omega) hB
  exact ⟨w', h1, h2, (Fr.refl _ _).grown h3 (fun k e _ => by cases e)⟩
/-- Behind an append of one text. -/
theorem own_putS {B : Nat} {W w w1 : World} {v v' : Value} {ls : List (List UInt8)} {n : Nat} {c : List UInt8} {t : TypeId} (hw : Below B W w) (h : OwnS B w v ls) (ho : w1.ownsRow B 9 1 v' n (ls.map sv ++ [sv c])) (hn : n = ls.length + 1) (hg : (w.alloc (.cells #[sv c] t)).grownBy w1 v.ownBlock) (hB : B ≤ W.heap.size) : OwnS B w1 v' (ls ++ [c]) ∧ Below B W w1 := by
  subst hn
  refine ⟨?_, ?_⟩
  · unfold OwnS
    rw [List.length_append, List.map_append]
    exact ho
  · refine ⟨hg.os.trans hw.os, hg.tape.trans hw.tape, hg.output.trans hw.output, ?_, fun k hk => ?_⟩
    · have := hg.size; simp at this; have := hw.size; omega
    · have h1 := hg.block k (by simp; have := hw.size; omega) (fun e => by have := h.lt k e.symm; omega)
      rw [h1, Below.heap_alloc _ _ _ (by have := hw.size; omega)]
      exact hw.block k hk
theorem OwnS.fr {B : Nat} {w w' : World} {v : Value} {ls : List (List UInt8)} (h : OwnS B w v ls) (hf : Nw w w') : OwnS B w' v ls :=
  ownsRow_keep h (fun g e => hf.block g (h.lt g e).2 (fun f => f))
instance (s : List UInt8) : Decidable (Lf s) := by unfold Lf; infer_instance
/-- What Lines reads. -/
def unls (l : List UInt8) : Except Nat (List (List UInt8)) := if Lf l then .ok (lns [] l) else .error l.length
theorem count_le (l : List UInt8) (c : UInt8) : Lib.countByte l c ≤ l.length := List.count_le_length
theorem extract_list (s : ByteArray) (i j : Nat) : (s.extract i j).data.toList = (s.data.toList.drop i).take (j - i) := by
  rw [ByteArray.data_extract, Array.toList_extract, List.extract_eq_take_drop]
theorem bytes_eta (s : ByteArray) : (⟨s.data.toList.toArray⟩ : ByteArray) = s := by simp

/-- How long a text is. -/
def szOf : Value → Nat
  | .string b => b.size
  | _ => 0
set_option maxRecDepth 100000 in
set_option maxHeartbeats 2000000 in
theorem lines_any {B : Nat} {w : World} {a : Nat → Addr} (hS : Sent B w a) (s : ByteArray) (hs : s.size ≤ 9223372036854775807) :
    Calls Tryz.prog 5 #[.string s] w fun e w' => ∃ v er, e = .returned (.tuple #[v, er]) ∧ OwnS w.heap.size w' v (rd [] s (unls s.data.toList)).1 ∧ EV w' a er (rd [] s (unls s.data.toList)).2.1 (rd [] s (unls s.data.toList)).2.2 ∧ Nw w w' := by
  obtain ⟨L, hL⟩ : ∃ L, L = s.data.toList := ⟨_, rfl⟩
  have hlen : L.length = s.size := by rw [hL, Array.length_toList]; rfl
  rw [← hL]
  by_cases hbig : 1048576 < s.size
  · rw [rd_long _ _ _ hbig]
    have hc := hS.c3
    have hbz : (1048576 : Int) < (s.size : Int) := by omega
    go_enter Tryz.func5, Tryz.ntmps5
    go_wp2
    go_quiet (fail)
    go_wp2
    go_ret2
    exact ⟨_, _, rfl, World.ownsRow_nil _ _ _ _, .inr (.inl ⟨3, by omega, rfl, rfl, rfl⟩), (Fr.refl _ _).drewN _⟩
  · have hbz : ¬ (1048576 : Int) < (s.size : Int) := by omega
    have hsuf := Tryz.strings_HasSuffix s lfB w hs
    rw [show Lib.hasSuffix s.data.toList lfB.data.toList = decide (L.getLast? = some 10) by rw [hL]; exact suffix_lf _] at hsuf
    by_cases hlf : Lf L
    · have HU : Hid (unls L = .ok (lns [] L)) := by unfold Hid unls; rw [if_pos hlf]
      have hcnt := Tryz.strings_Count_one s 10 w
      have hcl := count_le s.data.toList 10
      rw [← hL, hlen] at hcl
      rw [← hL] at hcnt
      generalize Lib.countByte L 10 = c at hcnt hcl
      obtain ⟨w1, hmk, hown, hnw⟩ := make_ownS w.heap.size w c (by omega) (Nat.le_refl _)
      obtain ⟨i0, hi, hz0, hz1, hz2⟩ := info_partsS
      have hz2i := hz2
      clear hz2
      have hlf' : Hid (Lf s.data.toList) := hL ▸ hlf
      have HL : Hid (L = s.data.toList) := hL
      clear hL
      by_cases hs0 : s.size = 0
      · have hln : lns [] L = [] := by rw [List.eq_nil_of_length_eq_zero (by omega : L.length = 0)]; rfl
        have HUR : Hid (rd [] s (unls L) = ([], 0, none)) := by unfold Hid; rw [rd_ok _ _ _ hbig _ HU.out, hln]
        rw [HUR.out]
        obtain rfl := size_zero s hs0
        go_enter Tryz.func5, Tryz.ntmps5
        go_wp2_with (go_at_call 16; refine hcnt.mono ?_; rintro e w2 ⟨rfl, rfl⟩)
        go_loopw [0, 4] (fun t v wr => t = .string ⟨#[]⟩ ∧ OwnS w2.heap.size wr v [] ∧ Below w2.heap.size w2 wr) (fun t _ _ => szOf t)
        case atStart => exact ⟨rfl, hown, hnw.bel⟩
        case round =>
          obtain ⟨rfl, ho, hb⟩ := hrel
          go_wp2
          go_ret2
          exact ⟨_, _, rfl, ho, .inl ⟨rfl, rfl, rfl⟩, Fr.ofBelow hb⟩
      · have hem0 := em_no s hs0
        have hgl : L.getLast? = some 10 := by
          rcases hlf with h | h
          · rw [h] at hlen; exact absurd hlen.symm hs0
          · exact h
        rw [decide_eq_true hgl] at hsuf
        clear hgl hlf
        go_enter Tryz.func5, Tryz.ntmps5
        go_wp2_with (first
          | (go_at_call 16; refine hcnt.mono ?_; rintro e w2 ⟨rfl, rfl⟩)
          | (go_at_call 14; refine hsuf.mono ?_; rintro e w0 ⟨rfl, rfl⟩))
        go_loopw [0, 4] (fun t v wr => ∃ (tb : ByteArray) (ls : List (List UInt8)), t = .string tb ∧ Lf tb.data.toList ∧ OwnS w2.heap.size wr v ls ∧ Below w2.heap.size w2 wr ∧ ls ++ lns [] tb.data.toList = lns [] L ∧ ls.length + tb.size ≤ s.size) (fun t _ _ => szOf t)
        case atStart => exact ⟨s, [], rfl, hlf'.out, hown, hnw.bel, by rw [HL.out]; rfl, by simp⟩
        case round =>
          obtain ⟨tb, ls, rfl, htl, ho, hb, hsp, hsz⟩ := hrel
          have HSP : Hid (ls ++ lns [] tb.data.toList = lns [] L) := hsp
          have HTL : Hid (Lf tb.data.toList) := htl
          clear hsp htl
          have htlen : tb.data.toList.length = tb.size := by rw [Array.length_toList]; rfl
          obtain ⟨va, vc, rfl⟩ := ownsRow_form ho
          by_cases h0 : tb.size = 0
          · obtain rfl := size_zero tb h0
            have HSP2 : Hid (lns [] L = ls) := by unfold Hid; rw [← HSP.out]; simp [lns]
            go_wp2
            go_ret2
            rw [rd_ok _ _ _ hbig _ (HU.out.trans (by rw [HSP2.out]))]
            exact ⟨_, _, rfl, ho, .inl ⟨rfl, rfl, rfl⟩, Fr.ofBelow hb⟩
          · have hem := em_no tb h0
            obtain ⟨i, hi1, hi2, hi3⟩ := lf_index tb.data.toList (fun e => h0 (by rw [← htlen, e]; rfl)) HTL.out
            have hcu := cut_any tb i wr (by omega) hi1 (by omega)
            have hl1 : (tb.extract 0 i).data.toList = tb.data.toList.take i := by rw [extract_list]; simp
            have hl2 : (tb.extract (i + 1) tb.size).data.toList = tb.data.toList.drop (i + 1) := extract_end tb (i + 1)
            have HL2 : Hid (Lf (tb.extract (i + 1) tb.size).data.toList) := by unfold Hid; rw [hl2]; exact hi3
            have HSP2 : Hid ((ls ++ [(tb.extract 0 i).data.toList]) ++ lns [] (tb.extract (i + 1) tb.size).data.toList = lns [] L) := by
              unfold Hid
              rw [hl1, hl2, ← HSP.out, lns_cut tb.data.toList [] i hi1]; simp
            have hz2 : (tb.extract (i + 1) tb.size).size = tb.size - (i + 1) := by rw [ByteArray.size_extract]; omega
            have hz1' : (tb.extract 0 i).size ≤ 1048576 := by rw [ByteArray.size_extract]; omega
            generalize tb.extract 0 i = line at hcu HSP2 hz1'
            generalize tb.extract (i + 1) tb.size = rest at hcu HSP2 HL2 hz2
            clear hl1 hl2 hi1 hi3
            go_wp2_with (first
              | (go_at_call 17; refine hcu.mono ?_; rintro e w3 ⟨rfl, hn3⟩; have hclo := clone_any line w3 (by omega))
              | (go_at_call 18; refine hclo.mono ?_; rintro e w4 ⟨rfl, hn4⟩; have ho4 := (OwnS.fr ho hn3).fr hn4; have hb4 := (hb.trans (hn3.bel.mono (by have := hb.size; omega))).trans (hn4.bel.mono (by have := hb.size; have := hn3.size; omega)); have hb4s := hb4.size)
              | (at_builtin; refine wpList_append_own _ rfl _ _ 22 rfl w2.heap.size 9 i0 (.string ⟨#[]⟩) 1 16 Tryz.underlying22 hi hz0 hz1 hz2i rfl (by decide) _ _ _ rfl (ho4.alloc _) ⟨w4.heap.size, 0, none⟩ 1 1 [.string line] rfl rfl (one_new _ _ _) (by simp [Value.oneCell']) (by unfold maxLen; omega) (by omega) (by simp; omega) ?_; intro v' w5 hown' hgrow _; obtain ⟨ga, gc, rfl⟩ := ownsRow_form hown'))
            obtain ⟨h5, h6⟩ := own_putS (c := line.data.toList) hb4 ho4 hown' rfl hgrow (Nat.le_refl _)
            exact ⟨⟨rest, _, rfl, HL2.out, h5, h6, HSP2.out, by rw [List.length_append]; simp; omega⟩, by simp [szOf]; omega⟩
    · have hne : s.size ≠ 0 := fun e => hlf (.inl (List.eq_nil_of_length_eq_zero (by omega)))
      have hem := em_no s hne
      rw [decide_eq_false (fun e => hlf (.inr e))] at hsuf
      have hwr := wrong_any hS (s.size : Int)
      have HU : Hid (unls L = .error s.size) := by unfold Hid unls; rw [if_neg hlf, hlen]
      clear hlf
      go_enter Tryz.func5, Tryz.ntmps5
      go_wp2_with (first
        | (go_at_call 14; refine hsuf.mono ?_; rintro e w2 ⟨rfl, rfl⟩)
        | (go_at_call 15; refine hwr.mono ?_; rintro e w3 ⟨v, rfl, hev, hnw3⟩))
      go_ret2
      rw [rd_err _ _ _ hbig _ HU.out]
      exact ⟨_, _, rfl, World.ownsRow_nil _ _ _ _, hev, hnw3⟩
end Go.Proofs.YtebbgpnhkpbefaaGreatDoor
