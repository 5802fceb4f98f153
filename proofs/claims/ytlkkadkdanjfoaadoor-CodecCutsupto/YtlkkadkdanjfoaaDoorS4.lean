/- A reader with a fault keeps it. -/
import Derived.Test.YtlkkadkdanjfoaaDoorS3
import Derived.Test.YtlkkadkdanjfoaaDoorL1
namespace Go.Proofs.YtlkkadkdanjfoaaDoor
open Go.RowKit
set_option linter.unusedVariables false
set_option linter.unusedSimpArgs false

/-- Behind so many reads: it stands somewhere, and what is left is told; or it has a fault. -/
def Ls (w : World) (b : Nat) (s : ByteArray) (a : Nat → Addr) (bf : Int) : Prop :=
  (∃ (p : Nat) (q : Int), p ≤ s.size ∧ Rd w b s p .nilIface q ∧ bf = (s.size : Int) - p) ∨ (∃ (i : Nat) (p q : Int), 1 ≤ i ∧ i ≤ 3 ∧ Rd w b s p (sen (a i)) q ∧ 0 ≤ bf)

/-- What a reader that stands somewhere, or has a fault, answers to Left. -/
theorem left_a {b : Nat} {s : ByteArray} {a : Nat → Addr} {p : Nat} {w : World} (h : Aft w b s a p) (hs : s.size ≤ maxLen) (hp : p ≤ s.size) :
    Calls Tryd.prog 22 #[.pointer (some ⟨b, 0, none⟩)] w fun e w' => ∃ l : Int, e = .returned (.int .i64 l) ∧ l ≤ (s.size : Int) - p ∧ Ls w' b s a l ∧ Fr (fun _ => False) w w' := by
  rcases h with ⟨p', q, h1, h2, h3⟩ | ⟨i, p', q, h1, h2, h3⟩
  · refine (left_yes b s p' q w h3 h2 hs).mono ?_
    rintro e w' ⟨rfl, h4, hf⟩
    exact ⟨_, rfl, by omega, .inl ⟨p', q, h2, h4, rfl⟩, hf⟩
  · refine (left_no b s p' q (a i) w h3).mono ?_
    rintro e w' ⟨rfl, rfl⟩
    exact ⟨_, rfl, by omega, .inr ⟨i, p', q, h1, h2, h3, by omega⟩, Fr.refl _ _⟩
theorem left_l {b : Nat} {s : ByteArray} {a : Nat → Addr} {bf : Int} {w : World} (h : Ls w b s a bf) (hs : s.size ≤ maxLen) :
    Calls Tryd.prog 22 #[.pointer (some ⟨b, 0, none⟩)] w fun e w' => ∃ l : Int, e = .returned (.int .i64 l) ∧ l ≤ bf ∧ Ls w' b s a l ∧ Fr (fun _ => False) w w' := by
  rcases h with ⟨p, q, h1, h2, rfl⟩ | ⟨i, p, q, h1, h2, h3, h4⟩
  · refine (left_yes b s p q w h2 h1 hs).mono ?_
    rintro e w' ⟨rfl, h4, hf⟩
    exact ⟨_, rfl, by omega, .inl ⟨p, q, h1, h4, rfl⟩, hf⟩
  · refine (left_no b s p q (a i) w h3).mono ?_
    rintro e w' ⟨rfl, rfl⟩
    exact ⟨_, rfl, by omega, .inr ⟨i, p, q, h1, h2, h3, by omega⟩, Fr.refl _ _⟩
/-- took, whatever the reader is. -/
theorem took_l {B b : Nat} {s : ByteArray} {w : World} {a : Nat → Addr} {A : Array Value} {bf : Int} (hS : Sent B w a) (hb : B ≤ b) (h : Ls w b s a bf) (hs : s.size ≤ 140737488355328) (hA : ∃ kd wd, Tg A kd wd) :
    Calls Tryd.prog 18 #[.pointer (some ⟨b, 0, none⟩), .agg A] w fun e w' => (∃ v, e = .returned (.agg v)) ∧ (∃ bf', bf' ≤ bf ∧ Ls w' b s a bf') ∧ Fr (fun j => j = b) w w' := by
  obtain ⟨kd, wd, hA⟩ := hA
  rcases h with ⟨p, q, h1, h2, rfl⟩ | ⟨i, p, q, h1, h2, h3, h4⟩
  · refine (took_c hS hb h2 h1 hs hA).mono ?_
    rintro e w' ⟨hv, h5, hf⟩
    refine ⟨hv, ?_, hf⟩
    rcases h5 with ⟨p', q', h6, h7, h8⟩ | ⟨i, p', q', h6, h7, h8⟩
    · exact ⟨_, by omega, .inl ⟨p', q', h7, h8, rfl⟩⟩
    · exact ⟨0, by omega, .inr ⟨i, p', q', h6, h7, h8, by omega⟩⟩
  · refine (took_f h3 hA).mono ?_
    rintro e w' ⟨⟨k, wd', rfl⟩, h5, hf⟩
    exact ⟨⟨_, rfl⟩, ⟨bf, by omega, .inr ⟨i, p, q, h1, h2, h5, h4⟩⟩, hf.mono (fun _ _ f => f.elim)⟩

theorem eqH (w : World) : (Op.equalIn 9999 32 (.agg #[.int .u8 0, .int .u8 0, .int .u8 0, .int .u8 0, .int .u8 0, .int .u8 0, .int .u8 0, .int .u8 0, .int .u8 0, .int .u8 0, .int .u8 0, .int .u8 0, .int .u8 0, .int .u8 0, .int .u8 0, .int .u8 0, .int .u8 0, .int .u8 0, .int .u8 0, .int .u8 0, .int .u8 0, .int .u8 0, .int .u8 0, .int .u8 0, .int .u8 0, .int .u8 0, .int .u8 0, .int .u8 0, .int .u8 0, .int .u8 0, .int .u8 0, .int .u8 0]) (.agg #[.int .u8 0, .int .u8 0, .int .u8 0, .int .u8 0, .int .u8 0, .int .u8 0, .int .u8 0, .int .u8 0, .int .u8 0, .int .u8 0, .int .u8 0, .int .u8 0, .int .u8 0, .int .u8 0, .int .u8 0, .int .u8 0, .int .u8 0, .int .u8 0, .int .u8 0, .int .u8 0, .int .u8 0, .int .u8 0, .int .u8 0, .int .u8 0, .int .u8 0, .int .u8 0, .int .u8 0, .int .u8 0, .int .u8 0, .int .u8 0, .int .u8 0, .int .u8 0])).run Tryd.prog w = .ok true w := by kernel_rfl
/-- End, of a reader that stands somewhere or has a fault: nil is told of none with a fault. -/
theorem end_w {B b : Nat} {s : ByteArray} {w : World} {a : Nat → Addr} {bf : Int} (hS : Sent B w a) (hs : s.size ≤ maxLen) (h : Ls w b s a bf) :
    Calls Tryd.prog 23 #[.pointer (some ⟨b, 0, none⟩)] w fun e w' => ∃ wv, e = .returned wv ∧ ((∃ (p : Nat) (q : Int), Rd w' b s p .nilIface q) ∨ (∃ (i : Nat) (p q : Int), 1 ≤ i ∧ i ≤ 3 ∧ Rd w' b s p (sen (a i)) q ∧ ∃ t u, wv = .iface t u)) ∧ Fr (fun _ => False) w w' := by
  rcases h with ⟨p, q, h1, h2, rfl⟩ | ⟨i, p, q, h1, h2, h3, h4⟩
  · by_cases hp : p = s.size
    · refine (end_ok b s p q (a 2) w h2 hp hs hS.c2).mono ?_
      rintro e w' ⟨rfl, hf⟩
      exact ⟨_, rfl, .inl ⟨p, q, h2.fr hf (fun f => f)⟩, hf⟩
    · refine (end_left b s p q (a 2) w h2 (by omega) hs hS.c2).mono ?_
      rintro e w' ⟨rfl, _, hf, _⟩
      exact ⟨_, rfl, .inl ⟨p, q, h2.fr hf (fun f => f)⟩, hf⟩
  · refine (end_f hS i h1 h2 h3).mono ?_
    rintro e w' ⟨⟨t, u, rfl, _⟩, hf⟩
    exact ⟨_, rfl, .inr ⟨i, p, q, h1, h2, h3.fr hf (fun f => f), t, u, rfl⟩, hf⟩
/-- Fixed(0) then: a fault that stays, or the first one. -/
theorem fixed_w {B b : Nat} {s : ByteArray} {w : World} {a : Nat → Addr} {wv : Value} (hS : Sent B w a) (hb : B ≤ b) (h : (∃ (p : Nat) (q : Int), Rd w b s p .nilIface q) ∨ (∃ (i : Nat) (p q : Int), 1 ≤ i ∧ i ≤ 3 ∧ Rd w b s p (sen (a i)) q ∧ ∃ t u, wv = .iface t u)) :
    Calls Tryd.prog 26 #[.pointer (some ⟨b, 0, none⟩), .int .i64 0] w fun e w' => (∃ v, e = .returned v) ∧ (∃ (i : Nat) (p q : Int), 1 ≤ i ∧ i ≤ 3 ∧ Rd w' b s p (sen (a i)) q ∧ (i = 1 ∨ ∃ t u, wv = .iface t u)) ∧ Fr (fun j => j = b) w w' := by
  rcases h with ⟨p, q, h1⟩ | ⟨i, p, q, h1, h2, h3, h4⟩
  · refine (rfixed_arg b s p 0 q (a 1) w h1 (by omega) hS.c1).mono ?_
    rintro e w' ⟨rfl, ⟨p', h'⟩, hf⟩
    exact ⟨⟨_, rfl⟩, ⟨1, p', q, by omega, by omega, h', .inl rfl⟩, hf⟩
  · refine (rfixed_f b s p q 0 (a i) w h3).mono ?_
    rintro e w' ⟨rfl, rfl⟩
    exact ⟨⟨_, rfl⟩, ⟨i, p, q, h1, h2, h3, .inr h4⟩, Fr.refl _ _⟩

set_option maxRecDepth 100000 in
set_option maxHeartbeats 8000000 in
theorem stays_any (w : World) (a : Nat → Addr) (s : ByteArray) (v1 v2 : Value) (n1 n2 : Nat) (A1 A2 : Nat → Array Value) (hS : Sent w.heap.size w a) (hs : s.size ≤ 140737488355328) (t1 : Ths w v1 n1 A1) (t2 : Ths w v2 n2 A2) :
    Calls Tryd.prog 8 #[.string s, v1, v2] w fun e w' => e = .returned (.bool true) ∧ Fr (fun _ => False) w w' := by
  have hsm : s.size ≤ maxLen := by unfold maxLen; omega
  have t1' := t1
  have t2' := t2
  obtain ⟨_, g1, c1, rfl, _, _⟩ := t1'
  obtain ⟨_, g2, c2, rfl, _, _⟩ := t2'
  go_enter Tryd.func8, Tryd.ntmps8
  go_wp2_with fail
  refine (lives_any _ w a hS).mono ?_
  rintro e w1 ⟨rfl, f1⟩
  go_wp2_with fail
  refine (newR s w1).mono ?_
  rintro e w2 ⟨rfl, h2, f2, z2⟩
  have g2' : Fr (fun _ => False) w w2 := f1.trans f2 (fun _ _ q => q)
  have l1 := f1.size
  have hL : Ls w2 w1.heap.size s a s.size := .inl ⟨0, 0, by omega, h2, by omega⟩
  clear h2
  go_wp2_with fail
  go_loopw [8, 9] (fun bf i wr => ∃ (k : Nat) (l : Int), k ≤ n1 ∧ i = .int .i64 k ∧ bf = .int .i64 l ∧ Ls wr w1.heap.size s a l ∧ Fr (fun j => j = w1.heap.size) w2 wr) (fun _ i _ => n1 - (intOf i).toNat)
  case atStart => exact ⟨0, s.size, by omega, rfl, rfl, hL, Fr.refl _ _⟩
  case round =>
    obtain ⟨k, l, hk, rfl, rfl, hLr, hfr⟩ := hrel
    have gr : Fr (fun _ => False) w wr := g2'.trans hfr (fun j hj q => by omega)
    by_cases hlt : k < n1
    · have t1r := t1.fr gr (fun _ _ f => f)
      have tg := t1r.1 k hlt
      obtain ⟨_, _, he, hn1, hx⟩ := t1r.2
      obtain ⟨g, off, rfl, hgl, hcl⟩ := hx (by omega)
      have hsz37 : (A1 k).size = 37 := by obtain ⟨kd, wd, hT⟩ := tg; exact hT.size
      have hck := hcl k hlt
      have hsr := hS.fr gr (nofalse _)
      injection he with e1 e2 e3
      subst e1 e3
      clear t1r hcl hx e2
      have hkn : (k : Int) < n1 := by omega
      go_wp2_with (refine wp_load_cells rfl (.tmp 33) 34 37 rfl Tryd.isAgg34 Tryd.sizeOf34 g (off + k * 37) rfl (A1 k) hsz37 hck ?_)
      refine (took_l hsr l1 hLr hs tg).mono ?_
      rintro e w3 ⟨⟨v, rfl⟩, ⟨l3, hl3, hL3⟩, f3⟩
      go_wp2_with fail
      refine (left_l hL3 hsm).mono ?_
      rintro e w4 ⟨l4, rfl, hl4, hL4, f4⟩
      have hd : ¬ (l < l4) := by omega
      go_wp2_with fail
      refine (left_l hL4 hsm).mono ?_
      rintro e w5 ⟨l5, rfl, hl5, hL5, f5⟩
      go_wp2_with fail
      go_roundw
      case rel => exact ⟨k + 1, l5, by omega, by go_num, rfl, hL5, ((hfr.trans f3 (fun _ _ q => q)).trans f4 (fun _ _ q => q.elim)).trans f5 (fun _ _ q => q.elim)⟩
      case measure => simp [intOf]; omega
    · have hge : ¬ ((k : Int) < n1) := by omega
      have hsr := hS.fr gr (nofalse _)
      go_wp2_with fail
      refine (end_w hsr hsm hLr).mono ?_
      rintro e w3 ⟨wv, rfl, hw3, f3⟩
      have s3 := hsr.fr f3 (nofalse _)
      go_wp2_with fail
      refine (fixed_w s3 l1 hw3).mono ?_
      rintro e w4 ⟨⟨v4, rfl⟩, ⟨ix, p4, q4, hi1, hi3, h4, hor⟩, f4⟩
      have g4 : Fr (fun _ => False) w w4 := (gr.trans f3 (fun _ _ q => q)).trans f4 (fun j hj q => by omega)
      have s4 := hS.fr g4 (nofalse _)
      go_wp2_with fail
      refine (end_f s4 ix hi1 hi3 h4).mono ?_
      rintro e w5 ⟨⟨tt, tu, rfl, ev5⟩, f5⟩
      have g5 := g4.trans f5 (fun _ _ q => q)
      have h5 := h4.fr f5 (fun f => f)
      go_wp2_with fail
      refine (left_no _ s p4 q4 (a ix) w5 h5).mono ?_
      rintro e w6 ⟨rfl, rfl⟩
      have s5 := hS.fr g5 (nofalse _)
      have q6 := lawIs_any s5 ev5 2 (by omega)
      obtain ⟨isb, hisb⟩ : ∃ isb, isb = sameB (ix + 1) (plF ix q4) 2 (-1) := ⟨_, rfl⟩
      rw [← hisb] at q6
      have hor2 : isb = true ∨ (isb = false ∧ ∃ t u, wv = .iface t u) := by
        rcases hor with rfl | hor
        · left; rw [hisb]; rfl
        · cases isb
          · exact .inr ⟨rfl, hor⟩
          · exact .inl rfl
      clear hisb hor
      rcases hor2 with rfl | ⟨rfl, wt, wu, rfl⟩
      all_goals
        go_wp2_with fail
        refine q6.mono ?_
        rintro e w7 ⟨rfl, f7⟩
        clear q6
        have g7 := g5.trans f7 (fun _ _ q => q)
        have h7 := h5.fr f7 (fun f => f)
        have ev7 := ev5.fr f7
        go_wp2_with fail
        go_loopw [12] (fun i wr2 => ∃ (k2 : Nat), k2 ≤ n2 ∧ i = .int .i64 k2 ∧ Rd wr2 w1.heap.size s p4 (sen (a ix)) q4 ∧ Fr (fun _ => False) w7 wr2) (fun i _ => n2 - (intOf i).toNat)
        case atStart => exact ⟨0, by omega, rfl, h7, Fr.refl _ _⟩
        case round =>
          obtain ⟨k2, hk2, rfl, hR, hfr2⟩ := hrel
          have gr2 := g7.trans hfr2 (fun _ _ q => q)
          have sr2 := hS.fr gr2 (nofalse _)
          by_cases hlt2 : k2 < n2
          · have t2r := t2.fr gr2 (fun _ _ f => f)
            obtain ⟨kd, wd, tg⟩ := t2r.1 k2 hlt2
            obtain ⟨_, _, he, hn2, hx⟩ := t2r.2
            obtain ⟨g, off, rfl, hgl, hcl⟩ := hx (by omega)
            have hck := hcl k2 hlt2
            injection he with e1 e2 e3
            subst e1 e3
            clear t2r hcl hx e2
            have hkn : (k2 : Int) < n2 := by omega
            go_wp2_with (refine wp_load_cells rfl (.tmp 73) 34 37 rfl Tryd.isAgg34 Tryd.sizeOf34 g (off + k2 * 37) rfl (A2 k2) tg.size hck ?_)
            refine (took_f hR tg).mono ?_
            rintro e w8 ⟨⟨kk, wd8, rfl⟩, h8, f8⟩
            have ka : (w8.alloc (.cells (tZ 0 0 0 ⟨#[]⟩) 34)).heap[w8.heap.size]? = some (.cells (tZ 0 0 0 ⟨#[]⟩) 34 (0, 0)) := heap_alloc_new w8 _
            have fa : Fr (fun _ => False) w8 (w8.alloc (.cells (tZ 0 0 0 ⟨#[]⟩) 34)) := (Fr.refl _ _).alloc _
            have ha := h8.fr fa (fun f => f)
            have hal := heap_lt h8
            have eh := eqH
            go_wp2_with (first
              | (refine wp_store_agg rfl (.tmp 13) (.tmp 75) 34 37 rfl Tryd.sizeOf34 w8.heap.size 0 rfl (tZ 0 0 0 ⟨#[]⟩) 34 ka (tZ kk 0 wd8 ⟨#[]⟩) rfl rfl (tZ_one _ _ _ _) (by decide) (tZ kk 0 wd8 ⟨#[]⟩) rfl ?_; intro w9 j9 f9 z9; have h9 := ha.fr f9 (by omega); have d1 := (cell_of j9 1).trans (show _ = some (Value.int .i64 kk) from rfl); have d3 := (cell_of j9 3).trans (show _ = some (Value.int .i64 wd8) from rfl); have g9 : Fr (fun _ => False) w8 w9 := fa.trans f9 (fun k hk q => by omega))
              | (refine wp_load_agg rfl (.tmp 13) 34 37 rfl Tryd.isAgg34 Tryd.sizeOf34 w8.heap.size 0 rfl (tZ kk 0 wd8 ⟨#[]⟩) 34 (0, 0) j9 (tZ kk 0 wd8 ⟨#[]⟩) rfl (fun j _ => by rw [Nat.zero_add]) ?_))
            refine (left_no _ s p4 q4 (a ix) w9 h9).mono ?_
            rintro e w10 ⟨rfl, rfl⟩
            have s9 := hS.fr ((gr2.trans f8 (fun _ _ q => q)).trans g9 (fun _ _ q => q)) (nofalse _)
            go_wp2_with fail
            refine (end_f s9 ix hi1 hi3 h9).mono ?_
            rintro e w11 ⟨⟨t11, u11, rfl, _⟩, f11⟩
            go_wp2_with fail
            go_roundw
            case rel => exact ⟨k2 + 1, by omega, by go_num, h9.fr f11 (fun f => f), ((hfr2.trans f8 (fun _ _ q => q)).trans g9 (fun _ _ q => q)).trans f11 (fun _ _ q => q)⟩
            case measure => simp [intOf]; omega
          · have hge2 : ¬ ((k2 : Int) < n2) := by omega
            go_wp2_with fail
            have evr := ev7.fr hfr2
            refine (at_any sr2 evr).mono ?_
            rintro e w8 ⟨rfl, f8⟩
            have g8 := gr2.trans f8 (fun _ _ q => q)
            have s8 := hS.fr g8 (nofalse _)
            have h8 := hR.fr f8 (fun f => f)
            go_wp2_with fail
            refine (end_f s8 ix hi1 hi3 h8).mono ?_
            rintro e w9 ⟨⟨t9, u9, rfl, ev9⟩, f9⟩
            have g9 := g8.trans f9 (fun _ _ q => q)
            have s9 := hS.fr g9 (nofalse _)
            have h9 := h8.fr f9 (fun f => f)
            go_wp2_with fail
            refine (at_any s9 ev9).mono ?_
            rintro e w10 ⟨rfl, f10⟩
            have g10 := g9.trans f10 (fun _ _ q => q)
            have s10 := hS.fr g10 (nofalse _)
            have h10 := h9.fr f10 (fun f => f)
            go_wp2_with fail
            refine (end_f s10 ix hi1 hi3 h10).mono ?_
            rintro e w11 ⟨⟨t11, u11, rfl, ev11⟩, f11⟩
            have g11 := g10.trans f11 (fun _ _ q => q)
            have s11 := hS.fr g11 (nofalse _)
            go_wp2_with fail
            refine (code_any s11 ev11).mono ?_
            rintro e w12 ⟨rfl, f12⟩
            have g12 := g11.trans f12 (fun _ _ q => q)
            have s12 := hS.fr g12 (nofalse _)
            have ev12 := ((((evr.fr f8).fr f9).fr f10).fr f11).fr f12
            go_wp2_with fail
            refine (code_any s12 ev12).mono ?_
            rintro e w13 ⟨rfl, f13⟩
            go_wp2_with fail
            go_ret
            exact ⟨rfl, g12.trans f13 (fun _ _ q => q)⟩
end Go.Proofs.YtlkkadkdanjfoaaDoor
