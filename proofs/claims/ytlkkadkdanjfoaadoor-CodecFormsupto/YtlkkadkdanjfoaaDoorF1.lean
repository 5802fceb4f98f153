/- What was read, put again, has the bytes that were read. -/
import Derived.Test.YtlkkadkdanjfoaaDoorP2
import Derived.Test.YtlkkadkdanjfoaaDoorS4
namespace Go.Proofs.YtlkkadkdanjfoaaDoor
open Go.RowKit
set_option linter.unusedVariables false
set_option linter.unusedSimpArgs false

/-- Behind so many reads and puts. -/
def Lf (w : World) (b c : Nat) (s : ByteArray) (a : Nat → Addr) (k : Nat) : Prop :=
  ∃ v l, Wr w c v l ∧ l.length ≤ s.size + 32 * k ∧ ((∃ (p : Nat) (q : Int), p ≤ s.size ∧ Rd w b s p .nilIface q ∧ l = s.data.toList.take p) ∨ (∃ (i : Nat) (p q : Int), 1 ≤ i ∧ i ≤ 3 ∧ Rd w b s p (sen (a i)) q))

theorem Ls.of {w : World} {b c : Nat} {s : ByteArray} {a : Nat → Addr} {k : Nat} (h : Lf w b c s a k) : ∃ bf, Ls w b s a bf := by
  obtain ⟨v, l, _, _, ⟨p, q, h1, h2, _⟩ | ⟨i, p, q, h1, h2, h3⟩⟩ := h
  · exact ⟨_, .inl ⟨p, q, h1, h2, rfl⟩⟩
  · exact ⟨0, .inr ⟨i, p, q, h1, h2, h3, by omega⟩⟩

theorem Wr.fr1 {w w' : World} {b c : Nat} {v : Value} {l : List UInt8} (h : Wr w c v l) (hf : Fr (fun j => j = b) w w') (hbc : b < c) : Wr w' c v l :=
  h.fr hf (by omega) (fun g e => by have := h.gt g e; omega)

set_option maxRecDepth 100000 in
set_option maxHeartbeats 8000000 in
theorem forms_any (w : World) (a : Nat → Addr) (s : ByteArray) (v1 : Value) (n1 : Nat) (A1 : Nat → Array Value) (hS : Sent w.heap.size w a) (hs : s.size ≤ 1000000000) (t1 : Ths w v1 n1 A1) (hn : n1 ≤ 1000000000) :
    Calls Tryd.prog 6 #[.string s, v1] w fun e w' => e = .returned (.bool true) ∧ Fr (fun _ => False) w w' := by
  have hsm : s.size ≤ maxLen := by unfold maxLen; omega
  have t1' := t1
  obtain ⟨_, g1, c1, rfl, _, _⟩ := t1'
  go_enter Tryd.func6, Tryd.ntmps6
  go_wp2_with fail
  refine (lives_any _ w a hS).mono ?_
  rintro e w1 ⟨rfl, f1⟩
  go_wp2_with fail
  refine (newR s w1).mono ?_
  rintro e w2 ⟨rfl, h2, f2, z2⟩
  go_wp2_with fail
  refine (newW w2).mono ?_
  rintro e w3 ⟨rfl, h3, f3, z3⟩
  have g3 : Fr (fun _ => False) w w3 := (f1.trans f2 (fun _ _ q => q)).trans f3 (fun _ _ q => q)
  have l1 := f1.size
  have hbc : w1.heap.size < w2.heap.size := by omega
  have hL : Lf w3 w1.heap.size w2.heap.size s a 0 := ⟨_, [], h3, by simp, .inl ⟨0, 0, by omega, h2.fr f3 (fun f => f), by simp⟩⟩
  have Z2 : Hid (w2.heap.size = w1.heap.size + 1) := z2
  have Z3 : Hid (w3.heap.size = w2.heap.size + 1) := z3
  clear h2 h3 z2 z3
  go_wp2_with fail
  go_loopw [7] (fun i wr => ∃ (k : Nat), k ≤ n1 ∧ i = .int .i64 k ∧ Lf wr w1.heap.size w2.heap.size s a k ∧ Fr (fun _ => False) w wr) (fun i _ => n1 - (intOf i).toNat)
  case atStart => exact ⟨0, by omega, rfl, hL, g3⟩
  case round =>
    obtain ⟨k, hk, rfl, hLr, gr⟩ := hrel
    have hsr := hS.fr gr (nofalse _)
    by_cases hlt : k < n1
    · have t1r := t1.fr gr (fun _ _ f => f)
      obtain ⟨kd, wd, tg⟩ := t1r.1 k hlt
      obtain ⟨_, _, he, hn1, hx⟩ := t1r.2
      obtain ⟨g, off, rfl, hgl, hcl⟩ := hx (by omega)
      have hck := hcl k hlt
      injection he with e1 e2 e3
      subst e1 e3
      clear t1r hcl hx e2
      have hkn : (k : Int) < n1 := by omega
      obtain ⟨v, l, hW, hll, hst⟩ := hLr
      have hTk : ∃ PV : Array Value → World → Prop, (∀ V w' w'' (S : Nat → Prop), PV V w' → Fr S w' w'' → ¬ S w1.heap.size → PV V w'') ∧
          (Calls Tryd.prog 18 #[.pointer (some ⟨w1.heap.size, 0, none⟩), .agg (A1 k)] wr fun e w' => ∃ V, e = .returned (.agg V) ∧ V.size = 37 ∧ (∀ u ∈ V.toList, u.oneCell' = true) ∧ PV V w' ∧ Fr (fun j => j = w1.heap.size) wr w') ∧
          (∀ V w' v', Sent w.heap.size w' a → PV V w' → Wr w' w2.heap.size v' l → Calls Tryd.prog 13 #[.pointer (some ⟨w2.heap.size, 0, none⟩), .agg V] w' fun e w'' => ∃ ev, e = .returned ev ∧ (Lf w'' w1.heap.size w2.heap.size s a (k + 1) ∧ (ev = .nilIface ∨ ((∃ t u, ev = .iface t u) ∧ ∃ (i : Nat) (p q : Int), 1 ≤ i ∧ i ≤ 3 ∧ Rd w'' w1.heap.size s p (sen (a i)) q))) ∧ Fr (WS w2.heap.size) w' w'') := by
        have hnb : ¬ WS w2.heap.size w1.heap.size := fun (q : w2.heap.size ≤ w1.heap.size) => by omega
        rcases hst with ⟨p, q, hp, hR, hlp⟩ | ⟨i, p, q, hi1, hi3, hR⟩
        · refine ⟨fun V w' => Rp w' w1.heap.size s a p V, fun V w' w'' S hv hf hS => hv.fr hf hS, took_p hsr l1 hR hp hs tg, fun V w' v' hS' hV hW' => ?_⟩
          rcases hV with ⟨p', q', h1, h2, h3, h4⟩ | ⟨i, p', q', h1, h2, h3, kk, wd', k0, k3, rfl⟩
          · refine (h4 w' _ v' l hW' (by omega)).mono ?_
            rintro e w'' ⟨ev, rfl, ⟨rfl, v'', h''⟩, hf⟩
            refine ⟨_, rfl, ⟨⟨v'', _, h'', ?_, .inl ⟨p', q', h2, h3.fr hf hnb, ?_⟩⟩, .inl rfl⟩, hf⟩
            · rw [hlp, List.length_append, List.length_take, List.length_take, drop_len]; omega
            · rw [hlp, ← List.take_add, show p + (p' - p) = p' by omega]
          · refine (put_z hS' hW' (by omega) kk wd' k0 k3).mono ?_
            rintro e w'' ⟨ev, rfl, ⟨hev, v'', l'', h'', hl''⟩, hf⟩
            refine ⟨_, rfl, ⟨⟨v'', l'', h'', by omega, .inr ⟨i, p', q', h1, h2, h3.fr hf hnb⟩⟩, ?_⟩, hf⟩
            rcases hev with hev | hev
            · exact .inl hev
            · exact .inr ⟨hev, i, p', q', h1, h2, h3.fr hf hnb⟩
        · refine ⟨fun V w' => Rd w' w1.heap.size s p (sen (a i)) q ∧ ∃ kk wd' : Int, 0 ≤ kk ∧ kk ≤ 3 ∧ V = tZ kk 0 wd' ⟨#[]⟩, fun V w' w'' S hv hf hS => ⟨hv.1.fr hf hS, hv.2⟩, ?_, fun V w' v' hS' hV hW' => ?_⟩
          · refine (took_z hR tg).mono ?_
            rintro e w' ⟨⟨kk, wd', k0, k3, rfl⟩, h', hf⟩
            exact ⟨_, rfl, rfl, tZ_one _ _ _ _, ⟨h', kk, wd', k0, k3, rfl⟩, hf⟩
          · obtain ⟨h3, kk, wd', k0, k3, rfl⟩ := hV
            refine (put_z hS' hW' (by omega) kk wd' k0 k3).mono ?_
            rintro e w'' ⟨ev, rfl, ⟨hev, v'', l'', h'', hl''⟩, hf⟩
            refine ⟨_, rfl, ⟨⟨v'', l'', h'', by omega, .inr ⟨i, p, q, hi1, hi3, h3.fr hf hnb⟩⟩, ?_⟩, hf⟩
            rcases hev with hev | hev
            · exact .inl hev
            · exact .inr ⟨hev, i, p, q, hi1, hi3, h3.fr hf hnb⟩
      obtain ⟨PV, hPV, hT, hPut⟩ := hTk
      clear hst
      go_wp2_with (refine wp_load_cells rfl (.tmp 23) 34 37 rfl Tryd.isAgg34 Tryd.sizeOf34 g (off + k * 37) rfl (A1 k) tg.size hck ?_)
      refine hT.mono ?_
      rintro e w4 ⟨V, rfl, hV37, hV1, hp4, f4⟩
      have hW4 := hW.fr1 f4 hbc
      have g4 : Fr (fun _ => False) w w4 := gr.trans f4 (fun j hj q => by omega)
      have ka : (w4.alloc (.cells (tZ 0 0 0 ⟨#[]⟩) 34)).heap[w4.heap.size]? = some (.cells (tZ 0 0 0 ⟨#[]⟩) 34 (0, 0)) := heap_alloc_new w4 _
      have fa : Fr (fun _ => False) w4 (w4.alloc (.cells (tZ 0 0 0 ⟨#[]⟩) 34)) := (Fr.refl _ _).alloc _
      have hl4 := heap_lt hW4.blk
      go_wp2_with (first
        | (refine wp_store_agg rfl (.tmp 8) (.tmp 25) 34 37 rfl Tryd.sizeOf34 w4.heap.size 0 rfl (tZ 0 0 0 ⟨#[]⟩) 34 ka V rfl hV37 hV1 (by decide) V (by have : (tZ 0 0 0 ⟨#[]⟩).toList.drop (0 + 37) = [] := rfl; rw [this]; simp) ?_; intro w5 j5 f5 z5; have g5 : Fr (fun _ => False) w4 w5 := fa.trans f5 (fun k hk q => by omega))
        | (refine wp_load_agg rfl (.tmp 8) 34 37 rfl Tryd.isAgg34 Tryd.sizeOf34 w4.heap.size 0 rfl V 34 (0, 0) j5 V hV37 (fun j _ => by rw [Nat.zero_add]) ?_))
      have g5' := g4.trans g5 (fun _ _ q => q)
      refine (hPut V w5 v (hS.fr g5' (nofalse _)) (hPV V w4 w5 _ hp4 g5 (fun f => f)) (hW4.fr g5 (fun f => f) (fun _ _ f => f))).mono ?_
      rintro e w6 ⟨ev, rfl, ⟨hL6, hev⟩, f6⟩
      have g6 : Fr (fun _ => False) w w6 := g5'.trans f6 (fun j hj q => by have : w2.heap.size ≤ j := q; omega)
      rcases hev with rfl | ⟨⟨te, ue, rfl⟩, i6, p6, q6, hi1, hi3, hR6⟩
      · go_wp2_with fail
        go_roundw
        case rel => exact ⟨k + 1, by omega, by go_num, hL6, g6⟩
        case measure => simp [intOf]; omega
      · go_wp2_with fail
        refine (end_f (hS.fr g6 (nofalse _)) i6 hi1 hi3 hR6).mono ?_
        rintro e w7 ⟨⟨t7, u7, rfl, _⟩, f7⟩
        have hL7 : Lf w7 w1.heap.size w2.heap.size s a (k + 1) := by
          obtain ⟨v6, l6, hW6, hll6, hst6⟩ := hL6
          refine ⟨v6, l6, hW6.fr f7 (fun f => f) (fun _ _ f => f), hll6, ?_⟩
          rcases hst6 with ⟨p, q, h1, h2, h3⟩ | ⟨i, p, q, h1, h2, h3⟩
          · exact .inl ⟨p, q, h1, h2.fr f7 (fun f => f), h3⟩
          · exact .inr ⟨i, p, q, h1, h2, h3.fr f7 (fun f => f)⟩
        go_wp2_with fail
        go_roundw
        case rel => exact ⟨k + 1, by omega, by go_num, hL7, g6.trans f7 (fun _ _ q => q)⟩
        case measure => simp [intOf]; omega
    · have hge : ¬ ((k : Int) < n1) := by omega
      obtain ⟨v, l, hW, hll, hst⟩ := hLr
      rcases hst with ⟨p, q, hp, hR, hlp⟩ | ⟨i, p, q, hi1, hi3, hR⟩
      · by_cases hpe : p = s.size
        · go_wp2_with fail
          refine (end_ok _ s p q (a 2) wr hR hpe hsm hsr.c2).mono ?_
          rintro e w4 ⟨rfl, f4⟩
          go_wp2_with fail
          refine (wdone _ v l w4 (hW.fr f4 (fun f => f) (fun _ _ f => f))).mono ?_
          rintro e w5 ⟨rfl, rfl⟩
          have hls : (⟨l.toArray⟩ : ByteArray) = s := by
            apply ByteArray.ext
            apply Array.ext'
            rw [List.toList_toArray, hlp, hpe, List.take_of_length_le (by rw [Array.length_toList]; exact Nat.le_refl _)]
          rw [hls]
          go_wp2_with fail
          go_ret
          exact ⟨by simp, gr.trans f4 (fun _ _ q => q)⟩
        · go_wp2_with fail
          refine (end_left _ s p q (a 2) wr hR (by omega) hsm hsr.c2).mono ?_
          rintro e w4 ⟨rfl, _, f4, _⟩
          go_wp2_with fail
          go_ret
          exact ⟨rfl, gr.trans f4 (fun _ _ q => q)⟩
      · go_wp2_with fail
        refine (end_f hsr i hi1 hi3 hR).mono ?_
        rintro e w4 ⟨⟨t4, u4, rfl, _⟩, f4⟩
        go_wp2_with fail
        go_ret
        exact ⟨rfl, gr.trans f4 (fun _ _ q => q)⟩
end Go.Proofs.YtlkkadkdanjfoaaDoor
