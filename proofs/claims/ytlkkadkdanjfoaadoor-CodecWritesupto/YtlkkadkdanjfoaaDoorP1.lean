/- What put does with a thing. -/
import Derived.Test.YtlkkadkdanjfoaaDoorS3
import Derived.Test.YtlkkadkdanjfoaaDoorM1
namespace Go.Proofs.YtlkkadkdanjfoaaDoor
open Go.RowKit
set_option linter.unusedVariables false
set_option linter.unusedSimpArgs false

/-- What is put to a writer at block b, whatever comes of it. -/
def Pt (f : Nat) (args : Array Value) (b : Nat) (w : World) (PF : Value → World → Prop) : Prop :=
  ∀ w1, Fr (fun _ => False) w w1 → Calls Tryd.prog f args w1 fun e w' => ∃ ev, e = .returned ev ∧ PF ev w' ∧ Fr (WS b) w1 w'

theorem boxed {w : World} {V : Array Value} {t : TypeId} {i : Nat} {u : Value} (h : V[i]? = some u) : (w.alloc (.cells V t)).cell? ⟨w.heap.size, i, none⟩ = some u := (cell_of (heap_alloc_new w _) i).trans h

set_option maxRecDepth 100000 in
set_option maxHeartbeats 2000000 in
theorem put0 (b : Nat) (V : Array Value) (n wd : Int) (w : World) (PF : Value → World → Prop) (hV : V.size = 37) (h1 : V[1]? = some (.int .i64 0)) (h2 : V[2]? = some (.int .u64 n)) (h3 : V[3]? = some (.int .i64 wd))
    (hF : Pt 33 #[.pointer (some ⟨b, 0, none⟩), .int .u64 n, .int .i64 wd] b w PF) :
    Calls Tryd.prog 13 #[.pointer (some ⟨b, 0, none⟩), .agg V] w fun e w' => ∃ ev, e = .returned ev ∧ PF ev w' ∧ Fr (WS b) w w' := by
  have fa : Fr (fun _ => False) w (w.alloc (.cells V 34)) := (Fr.refl _ _).alloc _
  have e1 := at_of h1
  have e2 := at_of h2
  have e3 := at_of h3
  clear h1 h2 h3
  go_enter Tryd.func13, Tryd.ntmps13
  go_wp2_with fail
  refine (round_any 0 _ (by omega) (by omega)).mono ?_
  rintro e w1 ⟨rfl, rfl⟩
  go_wp2_with fail
  refine (hF _ fa).mono ?_
  rintro e w2 ⟨ev, rfl, hp, hf⟩
  go_wp2_with fail
  go_ret
  exact ⟨_, rfl, hp, (fa.mono (fun _ _ f => f.elim)).trans hf (fun _ _ q => q)⟩
set_option maxRecDepth 100000 in
set_option maxHeartbeats 2000000 in
theorem put1 (b : Nat) (V : Array Value) (n : Int) (w : World) (PF : Value → World → Prop) (hV : V.size = 37) (h1 : V[1]? = some (.int .i64 1)) (h2 : V[2]? = some (.int .u64 n))
    (hF : Pt 34 #[.pointer (some ⟨b, 0, none⟩), .int .u64 n] b w (fun _ w' => PF .nilIface w')) :
    Calls Tryd.prog 13 #[.pointer (some ⟨b, 0, none⟩), .agg V] w fun e w' => ∃ ev, e = .returned ev ∧ PF ev w' ∧ Fr (WS b) w w' := by
  have fa : Fr (fun _ => False) w (w.alloc (.cells V 34)) := (Fr.refl _ _).alloc _
  have e1 := at_of h1
  have e2 := at_of h2
  clear h1 h2
  go_enter Tryd.func13, Tryd.ntmps13
  go_wp2_with fail
  refine (round_any 1 _ (by omega) (by omega)).mono ?_
  rintro e w1 ⟨rfl, rfl⟩
  go_wp2_with fail
  refine (hF _ fa).mono ?_
  rintro e w2 ⟨ev, rfl, hp, hf⟩
  go_wp2_with fail
  go_ret
  exact ⟨_, rfl, hp, (fa.mono (fun _ _ f => f.elim)).trans hf (fun _ _ q => q)⟩
set_option maxRecDepth 100000 in
set_option maxHeartbeats 2000000 in
theorem put2 (b : Nat) (V : Array Value) (t : ByteArray) (w : World) (PF : Value → World → Prop) (hV : V.size = 37) (h1 : V[1]? = some (.int .i64 2)) (h4 : V[4]? = some (.string t))
    (hF : Pt 35 #[.pointer (some ⟨b, 0, none⟩), .string t] b w (fun _ w' => PF .nilIface w')) :
    Calls Tryd.prog 13 #[.pointer (some ⟨b, 0, none⟩), .agg V] w fun e w' => ∃ ev, e = .returned ev ∧ PF ev w' ∧ Fr (WS b) w w' := by
  have fa : Fr (fun _ => False) w (w.alloc (.cells V 34)) := (Fr.refl _ _).alloc _
  have e1 := at_of h1
  have e4 := at_of h4
  clear h1 h4
  go_enter Tryd.func13, Tryd.ntmps13
  go_wp2_with fail
  refine (round_any 2 _ (by omega) (by omega)).mono ?_
  rintro e w1 ⟨rfl, rfl⟩
  go_wp2_with fail
  refine (hF _ fa).mono ?_
  rintro e w2 ⟨ev, rfl, hp, hf⟩
  go_wp2_with fail
  go_ret
  exact ⟨_, rfl, hp, (fa.mono (fun _ _ f => f.elim)).trans hf (fun _ _ q => q)⟩
set_option maxRecDepth 100000 in
set_option maxHeartbeats 2000000 in
theorem put3 (b : Nat) (V Hs : Array Value) (w : World) (PF : Value → World → Prop) (hV : V.size = 37) (h1 : V[1]? = some (.int .i64 3)) (hs : Hs.size = 32) (h5 : ∀ j, j < 32 → V[5 + j]? = Hs[j]?)
    (hF : Pt 36 #[.pointer (some ⟨b, 0, none⟩), .agg Hs] b w (fun _ w' => PF .nilIface w')) :
    Calls Tryd.prog 13 #[.pointer (some ⟨b, 0, none⟩), .agg V] w fun e w' => ∃ ev, e = .returned ev ∧ PF ev w' ∧ Fr (WS b) w w' := by
  have fa : Fr (fun _ => False) w (w.alloc (.cells V 34)) := (Fr.refl _ _).alloc _
  have ga : (w.alloc (.cells V 34)).heap[w.heap.size]? = some (.cells V 34 (0, 0)) := heap_alloc_new w _
  have e1 := at_of h1
  clear h1
  go_enter Tryd.func13, Tryd.ntmps13
  go_wp2_with fail
  refine (round_any 3 _ (by omega) (by omega)).mono ?_
  rintro e w1 ⟨rfl, rfl⟩
  go_wp2_with (refine wp_load_agg rfl (.tmp 9) 32 32 rfl Tryd.isAgg32 Tryd.sizeOf32 w.heap.size 5 rfl V 34 (0, 0) ga Hs hs h5 ?_)
  refine (hF _ fa).mono ?_
  rintro e w2 ⟨ev, rfl, hp, hf⟩
  go_wp2_with fail
  go_ret
  exact ⟨_, rfl, hp, (fa.mono (fun _ _ f => f.elim)).trans hf (fun _ _ q => q)⟩

/-- To put that thing is to put those bytes. -/
def Forms (V : Array Value) (F : List UInt8) : Prop :=
  ∀ (w : World) (b : Nat) (v : Value) (l : List UInt8), Wr w b v l → l.length ≤ 1000000000000 → Calls Tryd.prog 13 #[.pointer (some ⟨b, 0, none⟩), .agg V] w fun e w' => ∃ ev, e = .returned ev ∧ (ev = .nilIface ∧ ∃ v', Wr w' b v' (l ++ F)) ∧ Fr (WS b) w w'
theorem forms0 (n wd : Nat) (s : ByteArray) (h1 : 1 ≤ wd) (h8 : wd ≤ 8) (hn : n < 256 ^ wd) : Forms (tZ 0 n wd s) (fixB wd n) := by
  intro w b v l hW hl
  have hn64 : n < 18446744073709551616 := Nat.lt_of_lt_of_le hn (Nat.le_trans (Nat.pow_le_pow_right (by omega) h8) (by omega))
  refine put0 b _ n wd w (fun ev w' => ev = .nilIface ∧ ∃ v', Wr w' b v' (l ++ fixB wd n)) rfl rfl rfl rfl (fun w1 f1 => ?_)
  refine (wfixed_yes b v l n wd w1 (hW.fr f1 (fun f => f) (fun _ _ f => f)) hn64 h1 h8 hn hl).mono ?_
  rintro e w' ⟨rfl, v', h', hf⟩
  exact ⟨_, rfl, ⟨rfl, v', h'⟩, hf⟩
theorem forms1 (n : Nat) (wd : Int) (s : ByteArray) (hn : n < 18446744073709551616) : Forms (tZ 1 n wd s) (varB n) := by
  intro w b v l hW hl
  refine put1 b _ n w (fun ev w' => ev = .nilIface ∧ ∃ v', Wr w' b v' (l ++ varB n)) rfl rfl rfl (fun w1 f1 => ?_)
  refine (wvar b v l n w1 (hW.fr f1 (fun f => f) (fun _ _ f => f)) hn hl).mono ?_
  rintro e w' ⟨rfl, v', h', hf⟩
  exact ⟨_, rfl, ⟨rfl, v', h'⟩, hf⟩
theorem forms2 (n wd : Int) (t : ByteArray) (ht : t.size ≤ 70000000000000) : Forms (tZ 2 n wd t) (varB t.size ++ t.data.toList) := by
  intro w b v l hW hl
  refine put2 b _ t w (fun ev w' => ev = .nilIface ∧ ∃ v', Wr w' b v' (l ++ (varB t.size ++ t.data.toList))) rfl rfl rfl (fun w1 f1 => ?_)
  refine (wtext b v l t w1 (hW.fr f1 (fun f => f) (fun _ _ f => f)) ht hl).mono ?_
  rintro e w' ⟨rfl, v', h', hf⟩
  exact ⟨_, rfl, ⟨rfl, v', h'⟩, hf⟩
theorem forms3 (lh : List UInt8) (hh : lh.length = 32) : Forms (tH lh) lh := by
  intro w b v l hW hl
  refine put3 b _ (bc lh).toArray w (fun ev w' => ev = .nilIface ∧ ∃ v', Wr w' b v' (l ++ lh)) (by simp [tH, bc_len, hh]) rfl (by simp [bc_len, hh]) (fun j hj => ?_) (fun w1 f1 => ?_)
  · simp only [tH, List.getElem?_toArray]
    rw [Nat.add_comm]
    rfl
  · refine (whash b v l lh w1 (hW.fr f1 (fun f => f) (fun _ _ f => f)) hh hl).mono ?_
    rintro e w' ⟨rfl, v', h', hf⟩
    exact ⟨_, rfl, ⟨rfl, v', h'⟩, hf⟩
end Go.Proofs.YtlkkadkdanjfoaaDoor
