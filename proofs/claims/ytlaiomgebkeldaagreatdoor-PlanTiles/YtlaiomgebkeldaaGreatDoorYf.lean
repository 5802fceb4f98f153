/- plan: the tiles that parts need. -/
import Derived.Test.YtlaiomgebkeldaaGreatDoorYe
namespace Go.Proofs.YtlaiomgebkeldaaGreatDoor
open Go.RowKit Go.Maps Go.WideMaps
set_option linter.unusedVariables false
set_option linter.unusedSimpArgs false
/-- Parts in memory. -/
def Prt (w : World) (v : Value) (ls : List (List (Nat × Nat))) : Prop :=
  ∃ ad cap, v = .slice ad ls.length cap ∧ ∀ k l, ls[k]? = some l → ∃ g off x, ad = some ⟨g, off, none⟩ ∧ g < w.heap.size ∧ w.cell? ⟨g, off + k, none⟩ = some x ∧ Crd w x l
theorem Prt.nw {w w' : World} {v : Value} {ls : List (List (Nat × Nat))} (h : Prt w v ls) (n : Nw w w') : Prt w' v ls := by
  obtain ⟨ad, cap, rfl, h⟩ := h
  refine ⟨ad, cap, rfl, fun k t ht => ?_⟩
  obtain ⟨g, off, x, rfl, h1, h2, h3⟩ := h k t ht
  exact ⟨g, off, x, rfl, Nat.lt_of_lt_of_le h1 n.size, n.cellOf h2, h3.nw n⟩
theorem Prt.of {w : World} {base : Nat} {v : Value} {xs : List Value} {ls : List (List (Nat × Nat))} (h : Pts w base v xs ls) : Prt w v ls := by
  obtain ⟨ho, hr⟩ := h
  have hlt := ho.lt
  rcases ho.2 with ⟨rfl, hn⟩ | ⟨g, cap, cur, rfl, _⟩
  · have : ls = [] := List.length_eq_zero_iff.1 hn
    subst this
    exact ⟨none, 0, rfl, fun k t ht => by simp at ht⟩
  · refine ⟨_, _, rfl, fun k l hl => ?_⟩
    have hk : k < xs.length := by rw [hr.1]; exact (List.getElem?_eq_some_iff.1 hl).1
    have hx : xs[k]? = some xs[k] := List.getElem?_eq_getElem hk
    have := ho.cells (g := g) rfl k _ hx
    rw [addZ] at this
    exact ⟨g, 0, xs[k], rfl, (hlt g rfl).2, by rw [Nat.zero_add]; exact this, Crd.of (hr.2.1 k _ l hx hl)⟩
/-- All trees are a log's. -/
def gdA (S : Nat) (cs : List (Nat × Nat)) : Prop := ∀ c ∈ cs, gdT S c
set_option maxHeartbeats 2000000 in
theorem pclo_no {W w : World} {S : Nat} {v : Value} {out : List Ti} (h : Tsn W w S v out) (L I : Nat) (hg : ¬ gdT S (L, I)) (hL : L ≤ 255) (hI : I < 18446744073709551616) (hS : S ≤ 9223372036854775808) {B : Nat} {a : Nat → Addr} (hSe : Sent B w a) :
    Calls Tryz.prog 98 #[cd L I, .pointer (some ⟨W.heap.size, 0, none⟩), .pointer (some ⟨W.heap.size + 3, 0, none⟩), .pointer (some ⟨W.heap.size + 1, 0, none⟩)] w fun e w' => e = .returned (sen (a 4)) ∧ Nw w w' := by
  have QT : Hid (∀ V, Nw w V → Calls Tryz.prog 99 #[cd L I, .int .u64 (S : Int)] V fun e w' => e = .returned (.tuple #[tl 0 0 0, sen (a 4)]) ∧ Nw V w') := fun V nV => ptile_no S L I hg hL hI hS V (hSe.fr nV (fun _ _ f => f))
  have H1 : Hid (Tsn W (w.alloc (.cells #[.int .u8 (L : Int), .int .u64 (I : Int)] 87)) S v out) := h.up (nwa w _)
  have c0 := cell1 H1.out.sz
  have lw := h.nw.size
  clear hg hSe h
  go_enter Tryz.func98, Tryz.ntmps98
  go_wp2_with fail
  refine (QT.out _ (by repeat first | with_reducible exact nwr w | with_reducible refine Fr.alloc ?_ _ | with_reducible refine Fr.drew ?_ | (with_reducible refine Fr.setCell ?_ _ _ (fun h => ?_); rotate_left; focus (simp only at h; omega)))).mono ?_
  rintro e w2 ⟨rfl, n2⟩
  have N2 : Hid (Nw w w2) := Nw.tr (nwa w _) n2
  clear n2 c0
  go_wp2
  go_ret
  exact ⟨rfl, (by repeat first | with_reducible exact N2.out | with_reducible refine Fr.alloc ?_ _ | with_reducible refine Fr.drew ?_ | (with_reducible refine Fr.setCell ?_ _ _ (fun h => ?_); rotate_left; focus (simp only at h; omega)))⟩
set_option maxRecDepth 100000 in
set_option maxHeartbeats 4000000 in
theorem peach_any {W w : World} {S : Nat} (h : Tsn W w S (.slice none 0 0) []) (u : Value) (ls : List (List (Nat × Nat))) (hu : Prt W u ls) (hb : ∀ c ∈ ls.flatten, c.1 ≤ 255 ∧ c.2 < 18446744073709551616) (hS : S ≤ 9223372036854775808) (hl : ls.length ≤ 1099511627776) (hl2 : ls.flatten.length ≤ 1099511627776) (hl3 : ∀ l ∈ ls, l.length ≤ 1099511627776)
    {B : Nat} {a : Nat → Addr} (hSe : Sent B W a) :
    Calls Tryz.prog 97 #[u, .func (.func 98) #[] #[.pointer (some ⟨W.heap.size, 0, none⟩), .pointer (some ⟨W.heap.size + 3, 0, none⟩), .pointer (some ⟨W.heap.size + 1, 0, none⟩)]] w fun e w' =>
      (gdA S ls.flatten → e = .returned .nilIface ∧ ∃ v', Tsn W w' S v' (tls S ls.flatten)) ∧ (¬ gdA S ls.flatten → e = .returned (sen (a 4)) ∧ Nw W w') := by
  obtain ⟨ad, ca, rfl, hu⟩ := hu
  have HU : Hid (∀ k l, ls[k]? = some l → ∃ g off x, ad = some ⟨g, off, none⟩ ∧ g < W.heap.size ∧ W.cell? ⟨g, off + k, none⟩ = some x ∧ Crd W x l) := hu
  have HB : Hid (∀ c ∈ ls.flatten, c.1 ≤ 255 ∧ c.2 < 18446744073709551616) := hb
  have HL2 : Hid (ls.flatten.length ≤ 1099511627776) := hl2
  have HL3 : Hid (∀ l ∈ ls, l.length ≤ 1099511627776) := hl3
  have HSe : Hid (Sent B W a) := hSe
  have HT : Hid (Tsn W w S (.slice none 0 0) []) := h
  clear hu hb h hSe hl2 hl3
  obtain ⟨n, hn⟩ : ∃ n, n = ls.length := ⟨_, rfl⟩
  have HN : Hid (n = ls.length) := hn
  rw [← hn] at hl ⊢
  clear hn
  obtain ⟨p0, hp0⟩ : ∃ p, p = W.heap.size := ⟨_, rfl⟩
  have HP0 : Hid (p0 = W.heap.size) := hp0
  rw [← hp0]
  clear hp0
  go_enter Tryz.func97, Tryz.ntmps97
  go_wp2
  go_loopw [12] (fun i wr => ∃ (k : Nat), k ≤ n ∧ i = .int .i64 k ∧ gdA S (ls.take k).flatten ∧ ∃ v, Tsn W wr S v (tls S (ls.take k).flatten)) (fun i _ => n - (intOf i).toNat)
  case atStart => exact ⟨0, by omega, rfl, (fun c hc => by simp at hc), _, HT.out⟩
  case round =>
    obtain ⟨k, hk, rfl, hgd, v, hts⟩ := hrel
    have HG : Hid (gdA S (ls.take k).flatten) := hgd
    have HTS : Hid (Tsn W wr S v (tls S (ls.take k).flatten)) := hts
    have HNW : Hid (Nw W wr) := hts.nw
    clear hgd hts
    by_cases hlt : k < n
    · obtain ⟨l, hl9⟩ : ∃ l, ls[k]? = some l := ⟨_, List.getElem?_eq_getElem (by rw [← HN.out]; exact hlt)⟩
      obtain ⟨g, off, x, rfl, g1, g2, g3⟩ := HU.out k l hl9
      have HK : Hid (ls[k]? = some l) := hl9
      have g2' := HNW.out.cellOf g2
      obtain ⟨bd, cb, rfl, hc⟩ := g3
      have HC : Hid (∀ k t, l[k]? = some t → ∃ g off, bd = some ⟨g, off, none⟩ ∧ g < W.heap.size ∧ W.cell? ⟨g, off + k * 2, none⟩ = some (.int .u8 (t.1 : Int)) ∧ W.cell? ⟨g, off + k * 2 + 1, none⟩ = some (.int .u64 (t.2 : Int))) := hc
      have hml := HL3.out l (List.mem_of_getElem? hl9)
      obtain ⟨m, hm⟩ : ∃ m, m = l.length := ⟨_, rfl⟩
      have HM : Hid (m = l.length) := hm
      rw [← hm] at g2' hml
      clear g2 hc hl9 hm
      have hki : (k : Int) < (n : Int) := by omega
      go_wp2
      go_loopw [19] (fun i wr => ∃ (j : Nat), j ≤ m ∧ i = .int .i64 j ∧ gdA S ((ls.take k).flatten ++ l.take j) ∧ ∃ v, Tsn W wr S v (tls S ((ls.take k).flatten ++ l.take j))) (fun i _ => m - (intOf i).toNat)
      case atStart => exact ⟨0, by omega, rfl, by simpa using HG.out, v, by simpa using HTS.out.up (by repeat first | with_reducible exact nwr wr | with_reducible refine Fr.alloc ?_ _ | with_reducible refine Fr.drew ?_ | (with_reducible refine Fr.setCell ?_ _ _ (fun h => ?_); rotate_left; focus (simp only at h; omega)))⟩
      case round =>
        obtain ⟨j, hj, rfl, hgd, v2, hts2⟩ := hrel
        have HG2 : Hid (gdA S ((ls.take k).flatten ++ l.take j)) := hgd
        have HT2 : Hid (Tsn W wr S v2 (tls S ((ls.take k).flatten ++ l.take j))) := hts2
        have HN2 : Hid (Nw W wr) := hts2.nw
        clear hgd hts2
        by_cases hlj : j < m
        · obtain ⟨t, ht⟩ : ∃ t, l[j]? = some t := ⟨_, List.getElem?_eq_getElem (by rw [← HM.out]; exact hlj)⟩
          obtain ⟨h, of2, rfl, q1, q2, q3⟩ := HC.out j t ht
          obtain ⟨L, I⟩ := t
          have q2' := HN2.out.cellOf q2
          have q3' := HN2.out.cellOf q3
          have hji : (j : Int) < (m : Int) := by omega
          have hmem : (L, I) ∈ ls.flatten := List.mem_flatten.2 ⟨l, List.mem_of_getElem? HK.out, List.mem_of_getElem? ht⟩
          obtain ⟨b1, b2⟩ := HB.out _ hmem
          simp only at b1 b2
          have HJ : Hid ((ls.take k).flatten ++ l.take (j + 1) = ((ls.take k).flatten ++ l.take j) ++ [(L, I)]) := by show _ = _; rw [List.take_add_one, ht]; simp
          have HLN : Hid ((tls S ((ls.take k).flatten ++ l.take j)).length ≤ 1099511627776) := by
            refine Nat.le_trans (tls_len _ _) (Nat.le_trans ?_ HL2.out)
            have e1 : ls = ls.take k ++ l :: ls.drop (k + 1) := by
              have h1 := (List.getElem?_eq_some_iff.1 HK.out)
              obtain ⟨hk1, hk2⟩ := h1
              rw [← hk2, ← List.drop_eq_getElem_cons hk1, List.take_append_drop]
            have e2 : ls.flatten.length = (ls.take k).flatten.length + (l.length + (ls.drop (k + 1)).flatten.length) := by
              conv => lhs; rw [e1]
              simp [List.length_append]
            rw [e2, List.length_append, List.length_take]
            omega
          clear q2 q3 ht
          by_cases hg : gdT S (L, I)
          · have HQ : Hid (∀ V, Nw wr V → Calls Tryz.prog 98 #[cd L I, .pointer (some ⟨p0, 0, none⟩), .pointer (some ⟨p0 + 3, 0, none⟩), .pointer (some ⟨p0 + 1, 0, none⟩)] V fun e w' => e = .returned .nilIface ∧ ∃ v', Tsn W w' S v' (addT (tls S ((ls.take k).flatten ++ l.take j)) (tiN S (L, I)))) := fun V nV => by
              have := pclo_yes (HT2.out.up nV) L I hg hS HLN.out
              rw [← HP0.out] at this
              exact this
            have HGT : Hid (gdT S (L, I)) := hg
            clear hg b1 b2 hmem
            go_wp2_with fail
            refine (HQ.out _ (by repeat first | with_reducible exact nwr wr | with_reducible refine Fr.alloc ?_ _ | with_reducible refine Fr.drew ?_ | (with_reducible refine Fr.setCell ?_ _ _ (fun h => ?_); rotate_left; focus (simp only at h; omega)))).mono ?_
            rintro e w5 ⟨rfl, v5, t5⟩
            have HT5 : Hid (Tsn W w5 S v5 (addT (tls S ((ls.take k).flatten ++ l.take j)) (tiN S (L, I)))) := t5
            clear t5
            go_wp2
            refine ⟨⟨j + 1, by omega, by go_num, ?_, v5, ?_⟩, by simp [intOf]; omega⟩
            · rw [HJ.out]
              intro c hc
              rcases List.mem_append.1 hc with hc | hc
              · exact HG2.out c hc
              · simp at hc
                subst hc
                exact HGT.out
            · rw [HJ.out, tls_add]
              exact HT5.out
          · have HQ : Hid (∀ V, Nw wr V → Calls Tryz.prog 98 #[cd L I, .pointer (some ⟨p0, 0, none⟩), .pointer (some ⟨p0 + 3, 0, none⟩), .pointer (some ⟨p0 + 1, 0, none⟩)] V fun e w' => e = .returned (sen (a 4)) ∧ Nw V w') := fun V nV => by
              have := pclo_no (HT2.out.up nV) L I hg b1 b2 hS (HSe.out.fr (HN2.out.tr nV) (fun _ _ f => f))
              rw [← HP0.out] at this
              exact this
            have HNG : Hid (¬ gdA S ls.flatten) := fun q => hg (q _ hmem)
            clear hg b1 b2 hmem
            go_wp2_with fail
            refine (HQ.out _ (by repeat first | with_reducible exact nwr wr | with_reducible refine Fr.alloc ?_ _ | with_reducible refine Fr.drew ?_ | (with_reducible refine Fr.setCell ?_ _ _ (fun h => ?_); rotate_left; focus (simp only at h; omega)))).mono ?_
            rintro e w5 ⟨rfl, n5⟩
            have N5 : Hid (Nw W w5) := HN2.out.tr (Nw.tr (nwa wr _) n5)
            clear n5
            go_wp2
            go_ret
            exact ⟨fun q => absurd q HNG.out, fun _ => ⟨rfl, N5.out⟩⟩
        · obtain rfl : j = m := by omega
          have hT : l.take j = l := List.take_of_length_le (by rw [HM.out]; exact Nat.le_refl _)
          have hK2 : (ls.take (k + 1)).flatten = (ls.take k).flatten ++ l := by rw [List.take_add_one, HK.out]; simp
          rw [hT, ← hK2] at HG2 HT2
          clear hT hK2
          go_wp2
          exact ⟨⟨k + 1, by omega, by go_num, HG2.out, v2, HT2.out⟩, by simp [intOf]; omega⟩
    · obtain rfl : k = n := by omega
      have hT : ls.take k = ls := List.take_of_length_le (by rw [HN.out]; exact Nat.le_refl _)
      rw [hT] at HG HTS
      go_wp2
      go_ret
      exact ⟨fun _ => ⟨rfl, v, HTS.out⟩, fun q => absurd HG.out q⟩
set_option maxRecDepth 100000 in
set_option maxHeartbeats 4000000 in
theorem ptiles_any (u : Value) (ls : List (List (Nat × Nat))) (S : Nat) (w : World) (hu : Prt w u ls) (hb : ∀ c ∈ ls.flatten, c.1 ≤ 255 ∧ c.2 < 18446744073709551616) (hS : S ≤ 9223372036854775808) (hl : ls.length ≤ 1099511627776) (hl2 : ls.flatten.length ≤ 1099511627776) (hl3 : ∀ l ∈ ls, l.length ≤ 1099511627776)
    {B : Nat} {a : Nat → Addr} (hSe : Sent B w a) :
    Calls Tryz.prog 24 #[u, .int .u64 (S : Int)] w fun e w' =>
      (gdA S ls.flatten → ∃ v, e = .returned (.tuple #[v, .nilIface]) ∧ w'.ownsRow w.heap.size 104 3 v (tls S ls.flatten).length (tic (tls S ls.flatten)) ∧ Nw w w') ∧ (¬ gdA S ls.flatten → e = .returned (.tuple #[.slice none 0 0, sen (a 4)]) ∧ Nw w w') := by
  have HQ : Hid (∀ V, Tsn w V S (.slice none 0 0) [] → _) := fun V hV => peach_any hV u ls hu hb hS hl hl2 hl3 hSe
  have hSi : ¬ (9223372036854775808 : Int) < (S : Int) := by omega
  have hmm := @run_makeMap Tryz.prog
  have hd1 : decide ((9223372036854775808 : Int) < (S : Int)) = false := by simp; omega
  clear hb hl hl2 hl3 hSe
  obtain ⟨ad, ca, rfl, hu⟩ := hu
  clear hu
  go_enter Tryz.func24, Tryz.ntmps24
  go_wp2_with fail
  refine (HQ.out _ ?t1).mono ?_
  case t1 =>
    refine ⟨(by repeat first | with_reducible exact nwr w | with_reducible refine Fr.alloc ?_ _ | with_reducible refine Fr.drew ?_ | (with_reducible refine Fr.setCell ?_ _ _ (fun h => ?_); rotate_left; focus (simp only at h; omega))), ?_, ?_, ?_, World.ownsRow_nil _ _ _ _, fun _ => false, ?_, fun k => by simp⟩
    · (repeat first | with_reducible exact heap_new _ _ | with_reducible exact heap_new _ _ | with_reducible exact heap_next _ _ _ | with_reducible exact heap_third _ _ _ _ | with_reducible refine hp_dr ?_ | (with_reducible refine hp_ne ?_ ?_; focus omega) | (with_reducible refine hp_al ?_ ?_; focus (first | omega | (simp <;> omega))) | with_reducible apply hp_set) <;> rfl
    · (repeat first | with_reducible exact heap_next _ _ _ | with_reducible exact heap_new _ _ | with_reducible exact heap_next _ _ _ | with_reducible exact heap_third _ _ _ _ | with_reducible refine hp_dr ?_ | (with_reducible refine hp_ne ?_ ?_; focus omega) | (with_reducible refine hp_al ?_ ?_; focus (first | omega | (simp <;> omega))) | with_reducible apply hp_set) <;> rfl
    · have h0 := heap_new (((w.alloc (.cells #[.int .u64 (S : Int)] 22)).alloc (.cells #[.slice none 0 0] 71)).alloc (.map #[] 0)) (.cells #[.map (some (w.heap.size + 1 + 1))] 112)
      simp only [World.size_alloc] at h0
      exact h0
    · have m0 := TM.Mp.made ((w.alloc (.cells #[.int .u64 (S : Int)] 22)).alloc (.cells #[.slice none 0 0] 71))
      simp only [World.size_alloc] at m0
      exact m0.fr (nwa _ _) (fun q => q)
  rintro e w2 ⟨q1, q2⟩
  by_cases hg : gdA S ls.flatten
  · obtain ⟨rfl, v', t2⟩ := q1 hg
    have HT2 : Hid (Tsn w w2 S v' (tls S ls.flatten)) := t2
    obtain ⟨va, vc, rfl⟩ := ownsRow_form t2.own
    have y0 := cell1 t2.ts
    have HG : Hid (gdA S ls.flatten) := hg
    clear q1 q2 hg t2
    go_wp2
    exact bodyPost_ret (v := .tuple #[.slice va (tls S ls.flatten).length vc, .nilIface]) (by simp [results, Tryz.results24]) rfl ⟨fun _ => ⟨_, rfl, ownsRow_base HT2.out.own (by omega), HT2.out.nw⟩, fun q => absurd HG.out q⟩
  · obtain ⟨rfl, n2⟩ := q2 hg
    have HG : Hid (¬ gdA S ls.flatten) := hg
    have N2 : Hid (Nw w w2) := n2
    clear q1 q2 hg n2
    go_wp2
    exact bodyPost_ret (v := .tuple #[.slice none 0 0, sen (a 4)]) (by simp [results, Tryz.results24]) rfl ⟨fun q => absurd q HG.out, fun _ => ⟨rfl, N2.out⟩⟩
set_option maxHeartbeats 1000000 in
theorem ptiles_big (u : Value) (S : Nat) (w : World) (hS : 9223372036854775808 < S) (hS2 : S < 18446744073709551616) {B : Nat} {a : Nat → Addr} (hSe : Sent B w a) :
    Calls Tryz.prog 24 #[u, .int .u64 (S : Int)] w fun e w' => e = .returned (.tuple #[.slice none 0 0, sen (a 4)]) ∧ Nw w w' := by
  have hSi : (9223372036854775808 : Int) < (S : Int) := by omega
  have hc := (hSe.fr (nwa w (.cells #[.int .u64 (S : Int)] 22)) (fun _ _ f => f)).c4
  clear hSe
  go_enter Tryz.func24, Tryz.ntmps24
  go_wp2
  go_quiet (fail)
  go_wp2
  exact bodyPost_ret (v := .tuple #[.slice none 0 0, sen (a 4)]) (by simp [results, Tryz.results24]) rfl ⟨rfl, (nwa w _).drewN nq⟩
end Go.Proofs.YtlaiomgebkeldaaGreatDoor
