/- tiled: answer. -/
import Derived.Test.YtihmckficphccaaGreatDoorIga
import Derived.Test.YtihmckficphccaaGreatDoorYgb
namespace Go.Proofs.YtihmckficphccaaGreatDoor
open Go.RowKit
set_option linter.unusedVariables false
set_option linter.unusedSimpArgs false
theorem addT_memI (out : List Ti) (t x : Ti) : x ∈ addT out t ↔ x ∈ out ∨ x = t := by
  unfold addT
  split
  · rename_i h
    exact ⟨.inl, fun q => q.elim id (fun e => e ▸ h)⟩
  · simp
theorem foldT_memI (S : Nat) : ∀ (cs : List (Nat × Nat)) (o : List Ti) (x : Ti), x ∈ cs.foldl (fun o c => addT o (tiN S c)) o ↔ x ∈ o ∨ ∃ c ∈ cs, x = tiN S c
  | [], o, x => by simp
  | c :: r, o, x => by
    rw [List.foldl_cons, foldT_memI S r, addT_memI]
    constructor
    · rintro ((h | h) | ⟨d, h1, h2⟩)
      · exact .inl h
      · exact .inr ⟨c, by simp, h⟩
      · exact .inr ⟨d, by simp [h1], h2⟩
    · rintro (h | ⟨d, h1, h2⟩)
      · exact .inl (.inl h)
      · rcases List.mem_cons.1 h1 with rfl | h1
        · exact .inl (.inr h2)
        · exact .inr ⟨d, h1, h2⟩
theorem tls_memI (S : Nat) (cs : List (Nat × Nat)) (x : Ti) : x ∈ tls S cs ↔ ∃ c ∈ cs, x = tiN S c := by
  have := foldT_memI S cs [] x
  simpa [tls] using this
theorem gdT_bd {S : Nat} {c : Nat × Nat} (h : gdT S c) (hS : S ≤ 1048576) : c.1 ≤ 255 ∧ c.2 < 18446744073709551616 ∧ c.1 / 8 ≤ 255 ∧ ofA c.1 c.2 / 256 < 18446744073709551616 := by
  obtain ⟨hm, he⟩ := h
  have h1 := ofA_lt hm
  have h4 : 0 < 2 ^ (c.1 % 8) := Nat.pow_pos (by decide)
  have h2 : 2 ^ (63 - 8 * (c.1 / 8)) ≤ 2 ^ 63 := Nat.pow_le_pow_right (by decide) (by omega)
  have h3 : (2 : Nat) ^ 63 = 9223372036854775808 := by decide
  have h5 := hm.1
  have h6 : 0 < 2 ^ c.1 := Nat.pow_pos (by decide)
  have h7 : c.2 + 1 ≤ S := Nat.le_trans (Nat.le_mul_of_pos_right _ h6) he
  omega
theorem tis_tls {S : Nat} {cs : List (Nat × Nat)} (h : gdA S cs) (hS : S ≤ 1048576) : Tis S (tls S cs) := fun t ht => by
  obtain ⟨c, hc, rfl⟩ := (tls_memI S cs t).1 ht
  obtain ⟨W, hw, h0, _⟩ := tree_wid (h c hc).1 hS (h c hc).2
  obtain ⟨_, _, b1, b2⟩ := gdT_bd (h c hc) hS
  exact ⟨rfl, by show 0 < wid _ _ _; rw [hw]; exact h0, b1, b2⟩
set_option maxRecDepth 100000 in
set_option maxHeartbeats 4000000 in
theorem gans_root {s0 : RS} {l : List (List UInt8)} {B K : Nat} {w : World} (h : s0.At l B K w) {eb : Nat} (he : Eng s0 w eb l.length) (hn : l.length ≤ 1048576) (q : Nat) (hq : q ≤ l.length) {a : Nat → Addr} (hG : Gd B a w) (caps : Array Value) (ls : List (List (Nat × Nat)))
    (hQ : ∀ V, Nw w V → Calls Tryz.prog 51 caps V fun e w' => ∃ v xs, e = .returned (.tuple #[v, .nilIface]) ∧ Pts w' V.heap.size v xs ls ∧ Nw V w')
    (hg : gdA l.length ls.flatten) (hls : ls.length ≤ 1000) (hls2 : ∀ cs ∈ ls, cs.length ≤ 1000) (hls3 : ls.flatten.length ≤ 100000)
    (P Pf : Nat → RS → Prop) (hP : P 0 s0) (x : Addr)
    (hstep : ∀ k t s, (tls l.length ls.flatten)[k]? = some t → P k s → (∀ V, s.At l B (K + k) V → Fr s0.Ff w V → s.Got l B (K + k) t.L t.I t.W (P (k + 1)) V) ∨ (∀ V, s.At l B (K + k) V → Fr s0.Ff w V → s.Fell l B (K + k) t.L t.I t.W x (Pf (k + 1)) V)) :
    Calls Tryz.prog 50 #[.pointer (some ⟨eb, 0, none⟩), .int .u64 (q : Int), .func (.func 51) #[] caps] w fun e w' =>
      (∃ s' g c, e = .returned (.tuple #[.slice (some ⟨g, 0, none⟩) ls.length c, .nilIface]) ∧ w'.ownsRow w.heap.size 64 32 (.slice (some ⟨g, 0, none⟩) ls.length c) ls.length (hsc (ls.map (phL l))) ∧ s'.tg g = 9 ∧ s'.At l B (K + (tls l.length ls.flatten).length) w' ∧ s0.Le s' w ∧ P (tls l.length ls.flatten).length s' ∧ Fr s0.Ff w w' ∧ Eng s' w' eb l.length) ∨
      (∃ s' k, k < (tls l.length ls.flatten).length ∧ e = .returned (.tuple #[.slice none 0 0, sen x]) ∧ s'.At l B (K + (k + 1)) w' ∧ s0.Le s' w ∧ Pf (k + 1) s' ∧ Fr s0.Ff w w' ∧ Eng s' w' eb l.length) := by
  have q0 := gthere_yes he
  obtain ⟨c0, c1⟩ := he.cs
  have leb := heap_lt he.blk
  have hlen : (tls l.length ls.flatten).length ≤ 100000 := Nat.le_trans (tls_len _ _) hls3
  have hbd : ∀ c ∈ ls.flatten, c.1 ≤ 255 ∧ c.2 < 18446744073709551616 := fun c hc => by
    obtain ⟨b1, b2, _⟩ := gdT_bd (hg c hc) hn
    exact ⟨b1, b2⟩
  have HQ : Hid (∀ V, Nw w V → Calls Tryz.prog 51 caps V fun e w' => ∃ v xs, e = .returned (.tuple #[v, .nilIface]) ∧ Pts w' V.heap.size v xs ls ∧ Nw V w') := hQ
  have HTL : Hid (∀ V u, Nw w V → Prt V u ls → Calls Tryz.prog 77 #[u, .int .u64 (l.length : Int)] V fun e w' => ∃ v, e = .returned (.tuple #[v, .nilIface]) ∧ w'.ownsRow V.heap.size 86 3 v (tls l.length ls.flatten).length (tic (tls l.length ls.flatten)) ∧ Nw V w') := fun V u nV hu =>
    (ptiles_any u ls l.length V hu hbd (by omega) (by omega) (by omega) (fun l hl => by have := hls2 l hl; omega) (hG.nw nV).s).mono fun e w' hh => hh.1 hg
  have HRD : Hid (∀ V u, Nw w V → V.ownsRow w.heap.size 86 3 u (tls l.length ls.flatten).length (tic (tls l.length ls.flatten)) → Calls Tryz.prog 78 #[.pointer (some ⟨eb, 0, none⟩), u] V fun e w' =>
      (∃ s' mb, e = .returned (.tuple #[.map (some mb), .nilIface]) ∧ s'.At l B (K + (tls l.length ls.flatten).length) w' ∧ s0.Le s' V ∧ P (tls l.length ls.flatten).length s' ∧ Fr s0.Ff V w' ∧ PcI s' w' mb l (tls l.length ls.flatten) ∧ Eng s' w' eb l.length) ∨
      (∃ s' k, k < (tls l.length ls.flatten).length ∧ e = .returned (.tuple #[.map none, sen x]) ∧ s'.At l B (K + (k + 1)) w' ∧ s0.Le s' V ∧ Pf (k + 1) s' ∧ Fr s0.Ff V w' ∧ Eng s' w' eb l.length)) := fun V u nV hu =>
    pread_any (h.nw nV) (he.nw nV) u _ (tis_tls hg hn) hu hlen (fun g hg => h.nt g (hu.lt g hg).1) P Pf hP x (fun k t s ht hp => (hstep k t s ht hp).imp (fun hh W aW fW => hh W aW ((nV.mono (fun _ _ f => f.elim)).trans fW (fun _ _ q => q))) (fun hh W aW fW => hh W aW ((nV.mono (fun _ _ f => f.elim)).trans fW (fun _ _ q => q))))
  have HPP : Hid (∀ (s' : RS) V V' u xs mb, Nw w V → Pts V w.heap.size u xs ls → Fr s0.Ff V V' → PcI s' V' mb l (tls l.length ls.flatten) → Calls Tryz.prog 79 #[.map (some mb), u] V' fun e w' => ∃ g c, e = .returned (.tuple #[.slice (some ⟨g, 0, none⟩) ls.length c, .nilIface]) ∧ w'.ownsRow V'.heap.size 64 32 (.slice (some ⟨g, 0, none⟩) ls.length c) ls.length (hsc (ls.map (phL l))) ∧ Nw V' w') := fun s' V V' u xs mb nV hp fV hpc => by
    have nf : ∀ g, w.heap.size ≤ g → ¬ s0.Ff g := fun g hg q => by have := h.nt g hg; unfold RS.Ff at q; omega
    have hp' : Pts V' w.heap.size u xs ls := ⟨ownsRow_keep hp.1 (fun g hg => fV.block g (hp.1.lt g hg).2 (nf g (hp.1.lt g hg).1)), hp.2.keep (fun x hx g hgs hg => by
      obtain ⟨m, hm⟩ := hp.2.at hx
      exact fV.block g hgs (nf g (hm.lt g hg).1))⟩
    exact pparts_hash (hpc.pcs (tis_tls hg hn)) h.h32 hn u ls (Prt.of hp') hls hls2 hg (fun c hc => ⟨tiN l.length c, (tls_memI _ _ _).2 ⟨c, hc, rfl⟩, rfl, rfl⟩) ((hG.nw nV).fr fV h.bt).l
  have HNT : Hid (∀ k, w.heap.size ≤ k → s0.tg k = 9) := h.nt
  obtain ⟨S, hS⟩ : ∃ S, S = l.length := ⟨_, rfl⟩
  obtain ⟨m, hm⟩ : ∃ m, m = ls.length := ⟨_, rfl⟩
  have hqS : ¬ (S : Int) < (q : Int) := by omega
  have hqd : decide (S < q) = false := by simp; omega
  have HM : Hid (m = ls.length) := hm
  have HSS : Hid (S = l.length) := hS
  rw [← hS] at c1 HTL
  clear h he hn hq hG hQ hg hls hls2 hls3 hP hstep hbd hlen c0 hS hm
  go_enter Tryz.func50, Tryz.ntmps50
  go_wp2_with fail
  refine q0.mono ?_
  rintro e w1 ⟨rfl, rfl⟩
  go_wp2_with fail
  refine (HQ.out _ (nwr _)).mono ?_
  rintro e w2 ⟨v2, xs, rfl, p2, n2⟩
  have P2 : Hid (Pts w2 w1.heap.size v2 xs ls) := p2
  have N2 : Hid (Nw w1 w2) := n2
  have c2 := n2.cellOf c1
  have le2 := Nat.lt_of_lt_of_le leb n2.size
  obtain ⟨va, vc, rfl⟩ := ownsRow_form p2.1
  clear p2 n2 c1
  go_wp2_with fail
  refine (HTL.out w2 _ N2.out (Prt.of P2.out)).mono ?_
  rintro e w3 ⟨v3, rfl, o3, n3⟩
  have N3 : Hid (Nw w2 w3) := n3
  have O3 : Hid (w3.ownsRow w1.heap.size 86 3 v3 (tls l.length ls.flatten).length (tic (tls l.length ls.flatten))) := ownsRow_base (by rw [← HSS.out] at *; exact o3) N2.out.size
  obtain ⟨ta, tc, rfl⟩ := ownsRow_form o3
  clear o3 n3 c2
  go_wp2_with fail
  refine (HRD.out w3 _ (N2.out.tr N3.out) O3.out).mono ?_
  rintro e w4 (⟨s4, mb, rfl, a4, le4, p4, f4, pc4, e4⟩ | ⟨s4, k, hk, rfl, a4, le4, p4, f4, e4⟩)
  · have H4 : Hid (s4.At l B (K + (tls l.length ls.flatten).length) w4 ∧ s0.Le s4 w3 ∧ P (tls l.length ls.flatten).length s4 ∧ Fr s0.Ff w3 w4 ∧ PcI s4 w4 mb l (tls l.length ls.flatten) ∧ Eng s4 w4 eb l.length) := ⟨a4, le4, p4, f4, pc4, e4⟩
    clear a4 le4 p4 f4 pc4 e4
    go_wp2_with fail
    refine (HPP.out s4 w3 w4 _ xs mb (N2.out.tr N3.out) (P2.out.nw N3.out) H4.out.2.2.2.1 H4.out.2.2.2.2.1).mono ?_
    rintro e w5 ⟨g, c, rfl, o5, n5⟩
    have O5 : Hid (w5.ownsRow w4.heap.size 64 32 (.slice (some ⟨g, 0, none⟩) ls.length c) ls.length (hsc (ls.map (phL l))) ∧ Nw w4 w5) := ⟨o5, n5⟩
    clear o5 n5
    go_wp2
    obtain ⟨a4, le4, p4, f4, pc4, e4⟩ := H4.out
    obtain ⟨o5, n5⟩ := O5.out
    have nw3 := N2.out.tr N3.out
    have fw4 : Fr s0.Ff w1 w4 := (nw3.mono (fun _ _ f => f.elim)).trans f4 (fun _ _ q => q)
    exact bodyPost_ret (v := .tuple #[.slice (some ⟨g, 0, none⟩) ls.length c, .nilIface]) (by simp [results, Tryz.results50]) rfl (.inl ⟨s4, g, c, rfl, ownsRow_base o5 fw4.size, a4.nt g (o5.lt g rfl).1, a4.nw n5, ⟨fun j hj => le4.tg j (Nat.lt_of_lt_of_le hj nw3.size), le4.rb, le4.sb, le4.zs, le4.cap⟩, p4, fw4.trans n5 (fun _ _ q => q.elim), e4.nw n5⟩)
  · have H4 : Hid (s4.At l B (K + (k + 1)) w4 ∧ s0.Le s4 w3 ∧ Pf (k + 1) s4 ∧ Fr s0.Ff w3 w4 ∧ Eng s4 w4 eb l.length) := ⟨a4, le4, p4, f4, e4⟩
    have HK : Hid (k < (tls l.length ls.flatten).length) := hk
    clear a4 le4 p4 f4 e4 hk
    go_wp2
    obtain ⟨a4, le4, p4, f4, e4⟩ := H4.out
    have nw3 := N2.out.tr N3.out
    exact bodyPost_ret (v := .tuple #[.slice none 0 0, sen x]) (by simp [results, Tryz.results50]) rfl (.inr ⟨s4, k, HK.out, rfl, a4, ⟨fun j hj => le4.tg j (Nat.lt_of_lt_of_le hj nw3.size), le4.rb, le4.sb, le4.zs, le4.cap⟩, p4, (nw3.mono (fun _ _ f => f.elim)).trans f4 (fun _ _ q => q), e4⟩)
set_option maxRecDepth 100000 in
set_option maxHeartbeats 4000000 in
theorem gans_path {s0 : RS} {l : List (List UInt8)} {B K : Nat} {w : World} (h : s0.At l B K w) {eb : Nat} (he : Eng s0 w eb l.length) (hn : l.length ≤ 1048576) (q : Nat) (hq : q ≤ l.length) {a : Nat → Addr} (hG : Gd B a w) (caps : Array Value) (ls : List (List (Nat × Nat)))
    (hQ : ∀ V, Nw w V → Calls Tryz.prog 53 caps V fun e w' => ∃ v xs, e = .returned (.tuple #[v, .nilIface]) ∧ Pts w' V.heap.size v xs ls ∧ Nw V w')
    (hg : gdA l.length ls.flatten) (hls : ls.length ≤ 1000) (hls2 : ∀ cs ∈ ls, cs.length ≤ 1000) (hls3 : ls.flatten.length ≤ 100000)
    (P Pf : Nat → RS → Prop) (hP : P 0 s0) (x : Addr)
    (hstep : ∀ k t s, (tls l.length ls.flatten)[k]? = some t → P k s → (∀ V, s.At l B (K + k) V → Fr s0.Ff w V → s.Got l B (K + k) t.L t.I t.W (P (k + 1)) V) ∨ (∀ V, s.At l B (K + k) V → Fr s0.Ff w V → s.Fell l B (K + k) t.L t.I t.W x (Pf (k + 1)) V)) :
    Calls Tryz.prog 50 #[.pointer (some ⟨eb, 0, none⟩), .int .u64 (q : Int), .func (.func 53) #[] caps] w fun e w' =>
      (∃ s' g c, e = .returned (.tuple #[.slice (some ⟨g, 0, none⟩) ls.length c, .nilIface]) ∧ w'.ownsRow w.heap.size 64 32 (.slice (some ⟨g, 0, none⟩) ls.length c) ls.length (hsc (ls.map (phL l))) ∧ s'.tg g = 9 ∧ s'.At l B (K + (tls l.length ls.flatten).length) w' ∧ s0.Le s' w ∧ P (tls l.length ls.flatten).length s' ∧ Fr s0.Ff w w' ∧ Eng s' w' eb l.length) ∨
      (∃ s' k, k < (tls l.length ls.flatten).length ∧ e = .returned (.tuple #[.slice none 0 0, sen x]) ∧ s'.At l B (K + (k + 1)) w' ∧ s0.Le s' w ∧ Pf (k + 1) s' ∧ Fr s0.Ff w w' ∧ Eng s' w' eb l.length) := by
  have q0 := gthere_yes he
  obtain ⟨c0, c1⟩ := he.cs
  have leb := heap_lt he.blk
  have hlen : (tls l.length ls.flatten).length ≤ 100000 := Nat.le_trans (tls_len _ _) hls3
  have hbd : ∀ c ∈ ls.flatten, c.1 ≤ 255 ∧ c.2 < 18446744073709551616 := fun c hc => by
    obtain ⟨b1, b2, _⟩ := gdT_bd (hg c hc) hn
    exact ⟨b1, b2⟩
  have HQ : Hid (∀ V, Nw w V → Calls Tryz.prog 53 caps V fun e w' => ∃ v xs, e = .returned (.tuple #[v, .nilIface]) ∧ Pts w' V.heap.size v xs ls ∧ Nw V w') := hQ
  have HTL : Hid (∀ V u, Nw w V → Prt V u ls → Calls Tryz.prog 77 #[u, .int .u64 (l.length : Int)] V fun e w' => ∃ v, e = .returned (.tuple #[v, .nilIface]) ∧ w'.ownsRow V.heap.size 86 3 v (tls l.length ls.flatten).length (tic (tls l.length ls.flatten)) ∧ Nw V w') := fun V u nV hu =>
    (ptiles_any u ls l.length V hu hbd (by omega) (by omega) (by omega) (fun l hl => by have := hls2 l hl; omega) (hG.nw nV).s).mono fun e w' hh => hh.1 hg
  have HRD : Hid (∀ V u, Nw w V → V.ownsRow w.heap.size 86 3 u (tls l.length ls.flatten).length (tic (tls l.length ls.flatten)) → Calls Tryz.prog 78 #[.pointer (some ⟨eb, 0, none⟩), u] V fun e w' =>
      (∃ s' mb, e = .returned (.tuple #[.map (some mb), .nilIface]) ∧ s'.At l B (K + (tls l.length ls.flatten).length) w' ∧ s0.Le s' V ∧ P (tls l.length ls.flatten).length s' ∧ Fr s0.Ff V w' ∧ PcI s' w' mb l (tls l.length ls.flatten) ∧ Eng s' w' eb l.length) ∨
      (∃ s' k, k < (tls l.length ls.flatten).length ∧ e = .returned (.tuple #[.map none, sen x]) ∧ s'.At l B (K + (k + 1)) w' ∧ s0.Le s' V ∧ Pf (k + 1) s' ∧ Fr s0.Ff V w' ∧ Eng s' w' eb l.length)) := fun V u nV hu =>
    pread_any (h.nw nV) (he.nw nV) u _ (tis_tls hg hn) hu hlen (fun g hg => h.nt g (hu.lt g hg).1) P Pf hP x (fun k t s ht hp => (hstep k t s ht hp).imp (fun hh W aW fW => hh W aW ((nV.mono (fun _ _ f => f.elim)).trans fW (fun _ _ q => q))) (fun hh W aW fW => hh W aW ((nV.mono (fun _ _ f => f.elim)).trans fW (fun _ _ q => q))))
  have HPP : Hid (∀ (s' : RS) V V' u xs mb, Nw w V → Pts V w.heap.size u xs ls → Fr s0.Ff V V' → PcI s' V' mb l (tls l.length ls.flatten) → Calls Tryz.prog 79 #[.map (some mb), u] V' fun e w' => ∃ g c, e = .returned (.tuple #[.slice (some ⟨g, 0, none⟩) ls.length c, .nilIface]) ∧ w'.ownsRow V'.heap.size 64 32 (.slice (some ⟨g, 0, none⟩) ls.length c) ls.length (hsc (ls.map (phL l))) ∧ Nw V' w') := fun s' V V' u xs mb nV hp fV hpc => by
    have nf : ∀ g, w.heap.size ≤ g → ¬ s0.Ff g := fun g hg q => by have := h.nt g hg; unfold RS.Ff at q; omega
    have hp' : Pts V' w.heap.size u xs ls := ⟨ownsRow_keep hp.1 (fun g hg => fV.block g (hp.1.lt g hg).2 (nf g (hp.1.lt g hg).1)), hp.2.keep (fun x hx g hgs hg => by
      obtain ⟨m, hm⟩ := hp.2.at hx
      exact fV.block g hgs (nf g (hm.lt g hg).1))⟩
    exact pparts_hash (hpc.pcs (tis_tls hg hn)) h.h32 hn u ls (Prt.of hp') hls hls2 hg (fun c hc => ⟨tiN l.length c, (tls_memI _ _ _).2 ⟨c, hc, rfl⟩, rfl, rfl⟩) ((hG.nw nV).fr fV h.bt).l
  have HNT : Hid (∀ k, w.heap.size ≤ k → s0.tg k = 9) := h.nt
  obtain ⟨S, hS⟩ : ∃ S, S = l.length := ⟨_, rfl⟩
  obtain ⟨m, hm⟩ : ∃ m, m = ls.length := ⟨_, rfl⟩
  have hqS : ¬ (S : Int) < (q : Int) := by omega
  have hqd : decide (S < q) = false := by simp; omega
  have HM : Hid (m = ls.length) := hm
  have HSS : Hid (S = l.length) := hS
  rw [← hS] at c1 HTL
  clear h he hn hq hG hQ hg hls hls2 hls3 hP hstep hbd hlen c0 hS hm
  go_enter Tryz.func50, Tryz.ntmps50
  go_wp2_with fail
  refine q0.mono ?_
  rintro e w1 ⟨rfl, rfl⟩
  go_wp2_with fail
  refine (HQ.out _ (nwr _)).mono ?_
  rintro e w2 ⟨v2, xs, rfl, p2, n2⟩
  have P2 : Hid (Pts w2 w1.heap.size v2 xs ls) := p2
  have N2 : Hid (Nw w1 w2) := n2
  have c2 := n2.cellOf c1
  have le2 := Nat.lt_of_lt_of_le leb n2.size
  obtain ⟨va, vc, rfl⟩ := ownsRow_form p2.1
  clear p2 n2 c1
  go_wp2_with fail
  refine (HTL.out w2 _ N2.out (Prt.of P2.out)).mono ?_
  rintro e w3 ⟨v3, rfl, o3, n3⟩
  have N3 : Hid (Nw w2 w3) := n3
  have O3 : Hid (w3.ownsRow w1.heap.size 86 3 v3 (tls l.length ls.flatten).length (tic (tls l.length ls.flatten))) := ownsRow_base (by rw [← HSS.out] at *; exact o3) N2.out.size
  obtain ⟨ta, tc, rfl⟩ := ownsRow_form o3
  clear o3 n3 c2
  go_wp2_with fail
  refine (HRD.out w3 _ (N2.out.tr N3.out) O3.out).mono ?_
  rintro e w4 (⟨s4, mb, rfl, a4, le4, p4, f4, pc4, e4⟩ | ⟨s4, k, hk, rfl, a4, le4, p4, f4, e4⟩)
  · have H4 : Hid (s4.At l B (K + (tls l.length ls.flatten).length) w4 ∧ s0.Le s4 w3 ∧ P (tls l.length ls.flatten).length s4 ∧ Fr s0.Ff w3 w4 ∧ PcI s4 w4 mb l (tls l.length ls.flatten) ∧ Eng s4 w4 eb l.length) := ⟨a4, le4, p4, f4, pc4, e4⟩
    clear a4 le4 p4 f4 pc4 e4
    go_wp2_with fail
    refine (HPP.out s4 w3 w4 _ xs mb (N2.out.tr N3.out) (P2.out.nw N3.out) H4.out.2.2.2.1 H4.out.2.2.2.2.1).mono ?_
    rintro e w5 ⟨g, c, rfl, o5, n5⟩
    have O5 : Hid (w5.ownsRow w4.heap.size 64 32 (.slice (some ⟨g, 0, none⟩) ls.length c) ls.length (hsc (ls.map (phL l))) ∧ Nw w4 w5) := ⟨o5, n5⟩
    clear o5 n5
    go_wp2
    obtain ⟨a4, le4, p4, f4, pc4, e4⟩ := H4.out
    obtain ⟨o5, n5⟩ := O5.out
    have nw3 := N2.out.tr N3.out
    have fw4 : Fr s0.Ff w1 w4 := (nw3.mono (fun _ _ f => f.elim)).trans f4 (fun _ _ q => q)
    exact bodyPost_ret (v := .tuple #[.slice (some ⟨g, 0, none⟩) ls.length c, .nilIface]) (by simp [results, Tryz.results50]) rfl (.inl ⟨s4, g, c, rfl, ownsRow_base o5 fw4.size, a4.nt g (o5.lt g rfl).1, a4.nw n5, ⟨fun j hj => le4.tg j (Nat.lt_of_lt_of_le hj nw3.size), le4.rb, le4.sb, le4.zs, le4.cap⟩, p4, fw4.trans n5 (fun _ _ q => q.elim), e4.nw n5⟩)
  · have H4 : Hid (s4.At l B (K + (k + 1)) w4 ∧ s0.Le s4 w3 ∧ Pf (k + 1) s4 ∧ Fr s0.Ff w3 w4 ∧ Eng s4 w4 eb l.length) := ⟨a4, le4, p4, f4, e4⟩
    have HK : Hid (k < (tls l.length ls.flatten).length) := hk
    clear a4 le4 p4 f4 e4 hk
    go_wp2
    obtain ⟨a4, le4, p4, f4, e4⟩ := H4.out
    have nw3 := N2.out.tr N3.out
    exact bodyPost_ret (v := .tuple #[.slice none 0 0, sen x]) (by simp [results, Tryz.results50]) rfl (.inr ⟨s4, k, HK.out, rfl, a4, ⟨fun j hj => le4.tg j (Nat.lt_of_lt_of_le hj nw3.size), le4.rb, le4.sb, le4.zs, le4.cap⟩, p4, (nw3.mono (fun _ _ f => f.elim)).trans f4 (fun _ _ q => q), e4⟩)
set_option maxRecDepth 100000 in
set_option maxHeartbeats 4000000 in
theorem gans_proof {s0 : RS} {l : List (List UInt8)} {B K : Nat} {w : World} (h : s0.At l B K w) {eb : Nat} (he : Eng s0 w eb l.length) (hn : l.length ≤ 1048576) (q : Nat) (hq : q ≤ l.length) {a : Nat → Addr} (hG : Gd B a w) (caps : Array Value) (ls : List (List (Nat × Nat)))
    (hQ : ∀ V, Nw w V → Calls Tryz.prog 55 caps V fun e w' => ∃ v xs, e = .returned (.tuple #[v, .nilIface]) ∧ Pts w' V.heap.size v xs ls ∧ Nw V w')
    (hg : gdA l.length ls.flatten) (hls : ls.length ≤ 1000) (hls2 : ∀ cs ∈ ls, cs.length ≤ 1000) (hls3 : ls.flatten.length ≤ 100000)
    (P Pf : Nat → RS → Prop) (hP : P 0 s0) (x : Addr)
    (hstep : ∀ k t s, (tls l.length ls.flatten)[k]? = some t → P k s → (∀ V, s.At l B (K + k) V → Fr s0.Ff w V → s.Got l B (K + k) t.L t.I t.W (P (k + 1)) V) ∨ (∀ V, s.At l B (K + k) V → Fr s0.Ff w V → s.Fell l B (K + k) t.L t.I t.W x (Pf (k + 1)) V)) :
    Calls Tryz.prog 50 #[.pointer (some ⟨eb, 0, none⟩), .int .u64 (q : Int), .func (.func 55) #[] caps] w fun e w' =>
      (∃ s' g c, e = .returned (.tuple #[.slice (some ⟨g, 0, none⟩) ls.length c, .nilIface]) ∧ w'.ownsRow w.heap.size 64 32 (.slice (some ⟨g, 0, none⟩) ls.length c) ls.length (hsc (ls.map (phL l))) ∧ s'.tg g = 9 ∧ s'.At l B (K + (tls l.length ls.flatten).length) w' ∧ s0.Le s' w ∧ P (tls l.length ls.flatten).length s' ∧ Fr s0.Ff w w' ∧ Eng s' w' eb l.length) ∨
      (∃ s' k, k < (tls l.length ls.flatten).length ∧ e = .returned (.tuple #[.slice none 0 0, sen x]) ∧ s'.At l B (K + (k + 1)) w' ∧ s0.Le s' w ∧ Pf (k + 1) s' ∧ Fr s0.Ff w w' ∧ Eng s' w' eb l.length) := by
  have q0 := gthere_yes he
  obtain ⟨c0, c1⟩ := he.cs
  have leb := heap_lt he.blk
  have hlen : (tls l.length ls.flatten).length ≤ 100000 := Nat.le_trans (tls_len _ _) hls3
  have hbd : ∀ c ∈ ls.flatten, c.1 ≤ 255 ∧ c.2 < 18446744073709551616 := fun c hc => by
    obtain ⟨b1, b2, _⟩ := gdT_bd (hg c hc) hn
    exact ⟨b1, b2⟩
  have HQ : Hid (∀ V, Nw w V → Calls Tryz.prog 55 caps V fun e w' => ∃ v xs, e = .returned (.tuple #[v, .nilIface]) ∧ Pts w' V.heap.size v xs ls ∧ Nw V w') := hQ
  have HTL : Hid (∀ V u, Nw w V → Prt V u ls → Calls Tryz.prog 77 #[u, .int .u64 (l.length : Int)] V fun e w' => ∃ v, e = .returned (.tuple #[v, .nilIface]) ∧ w'.ownsRow V.heap.size 86 3 v (tls l.length ls.flatten).length (tic (tls l.length ls.flatten)) ∧ Nw V w') := fun V u nV hu =>
    (ptiles_any u ls l.length V hu hbd (by omega) (by omega) (by omega) (fun l hl => by have := hls2 l hl; omega) (hG.nw nV).s).mono fun e w' hh => hh.1 hg
  have HRD : Hid (∀ V u, Nw w V → V.ownsRow w.heap.size 86 3 u (tls l.length ls.flatten).length (tic (tls l.length ls.flatten)) → Calls Tryz.prog 78 #[.pointer (some ⟨eb, 0, none⟩), u] V fun e w' =>
      (∃ s' mb, e = .returned (.tuple #[.map (some mb), .nilIface]) ∧ s'.At l B (K + (tls l.length ls.flatten).length) w' ∧ s0.Le s' V ∧ P (tls l.length ls.flatten).length s' ∧ Fr s0.Ff V w' ∧ PcI s' w' mb l (tls l.length ls.flatten) ∧ Eng s' w' eb l.length) ∨
      (∃ s' k, k < (tls l.length ls.flatten).length ∧ e = .returned (.tuple #[.map none, sen x]) ∧ s'.At l B (K + (k + 1)) w' ∧ s0.Le s' V ∧ Pf (k + 1) s' ∧ Fr s0.Ff V w' ∧ Eng s' w' eb l.length)) := fun V u nV hu =>
    pread_any (h.nw nV) (he.nw nV) u _ (tis_tls hg hn) hu hlen (fun g hg => h.nt g (hu.lt g hg).1) P Pf hP x (fun k t s ht hp => (hstep k t s ht hp).imp (fun hh W aW fW => hh W aW ((nV.mono (fun _ _ f => f.elim)).trans fW (fun _ _ q => q))) (fun hh W aW fW => hh W aW ((nV.mono (fun _ _ f => f.elim)).trans fW (fun _ _ q => q))))
  have HPP : Hid (∀ (s' : RS) V V' u xs mb, Nw w V → Pts V w.heap.size u xs ls → Fr s0.Ff V V' → PcI s' V' mb l (tls l.length ls.flatten) → Calls Tryz.prog 79 #[.map (some mb), u] V' fun e w' => ∃ g c, e = .returned (.tuple #[.slice (some ⟨g, 0, none⟩) ls.length c, .nilIface]) ∧ w'.ownsRow V'.heap.size 64 32 (.slice (some ⟨g, 0, none⟩) ls.length c) ls.length (hsc (ls.map (phL l))) ∧ Nw V' w') := fun s' V V' u xs mb nV hp fV hpc => by
    have nf : ∀ g, w.heap.size ≤ g → ¬ s0.Ff g := fun g hg q => by have := h.nt g hg; unfold RS.Ff at q; omega
    have hp' : Pts V' w.heap.size u xs ls := ⟨ownsRow_keep hp.1 (fun g hg => fV.block g (hp.1.lt g hg).2 (nf g (hp.1.lt g hg).1)), hp.2.keep (fun x hx g hgs hg => by
      obtain ⟨m, hm⟩ := hp.2.at hx
      exact fV.block g hgs (nf g (hm.lt g hg).1))⟩
    exact pparts_hash (hpc.pcs (tis_tls hg hn)) h.h32 hn u ls (Prt.of hp') hls hls2 hg (fun c hc => ⟨tiN l.length c, (tls_memI _ _ _).2 ⟨c, hc, rfl⟩, rfl, rfl⟩) ((hG.nw nV).fr fV h.bt).l
  have HNT : Hid (∀ k, w.heap.size ≤ k → s0.tg k = 9) := h.nt
  obtain ⟨S, hS⟩ : ∃ S, S = l.length := ⟨_, rfl⟩
  obtain ⟨m, hm⟩ : ∃ m, m = ls.length := ⟨_, rfl⟩
  have hqS : ¬ (S : Int) < (q : Int) := by omega
  have hqd : decide (S < q) = false := by simp; omega
  have HM : Hid (m = ls.length) := hm
  have HSS : Hid (S = l.length) := hS
  rw [← hS] at c1 HTL
  clear h he hn hq hG hQ hg hls hls2 hls3 hP hstep hbd hlen c0 hS hm
  go_enter Tryz.func50, Tryz.ntmps50
  go_wp2_with fail
  refine q0.mono ?_
  rintro e w1 ⟨rfl, rfl⟩
  go_wp2_with fail
  refine (HQ.out _ (nwr _)).mono ?_
  rintro e w2 ⟨v2, xs, rfl, p2, n2⟩
  have P2 : Hid (Pts w2 w1.heap.size v2 xs ls) := p2
  have N2 : Hid (Nw w1 w2) := n2
  have c2 := n2.cellOf c1
  have le2 := Nat.lt_of_lt_of_le leb n2.size
  obtain ⟨va, vc, rfl⟩ := ownsRow_form p2.1
  clear p2 n2 c1
  go_wp2_with fail
  refine (HTL.out w2 _ N2.out (Prt.of P2.out)).mono ?_
  rintro e w3 ⟨v3, rfl, o3, n3⟩
  have N3 : Hid (Nw w2 w3) := n3
  have O3 : Hid (w3.ownsRow w1.heap.size 86 3 v3 (tls l.length ls.flatten).length (tic (tls l.length ls.flatten))) := ownsRow_base (by rw [← HSS.out] at *; exact o3) N2.out.size
  obtain ⟨ta, tc, rfl⟩ := ownsRow_form o3
  clear o3 n3 c2
  go_wp2_with fail
  refine (HRD.out w3 _ (N2.out.tr N3.out) O3.out).mono ?_
  rintro e w4 (⟨s4, mb, rfl, a4, le4, p4, f4, pc4, e4⟩ | ⟨s4, k, hk, rfl, a4, le4, p4, f4, e4⟩)
  · have H4 : Hid (s4.At l B (K + (tls l.length ls.flatten).length) w4 ∧ s0.Le s4 w3 ∧ P (tls l.length ls.flatten).length s4 ∧ Fr s0.Ff w3 w4 ∧ PcI s4 w4 mb l (tls l.length ls.flatten) ∧ Eng s4 w4 eb l.length) := ⟨a4, le4, p4, f4, pc4, e4⟩
    clear a4 le4 p4 f4 pc4 e4
    go_wp2_with fail
    refine (HPP.out s4 w3 w4 _ xs mb (N2.out.tr N3.out) (P2.out.nw N3.out) H4.out.2.2.2.1 H4.out.2.2.2.2.1).mono ?_
    rintro e w5 ⟨g, c, rfl, o5, n5⟩
    have O5 : Hid (w5.ownsRow w4.heap.size 64 32 (.slice (some ⟨g, 0, none⟩) ls.length c) ls.length (hsc (ls.map (phL l))) ∧ Nw w4 w5) := ⟨o5, n5⟩
    clear o5 n5
    go_wp2
    obtain ⟨a4, le4, p4, f4, pc4, e4⟩ := H4.out
    obtain ⟨o5, n5⟩ := O5.out
    have nw3 := N2.out.tr N3.out
    have fw4 : Fr s0.Ff w1 w4 := (nw3.mono (fun _ _ f => f.elim)).trans f4 (fun _ _ q => q)
    exact bodyPost_ret (v := .tuple #[.slice (some ⟨g, 0, none⟩) ls.length c, .nilIface]) (by simp [results, Tryz.results50]) rfl (.inl ⟨s4, g, c, rfl, ownsRow_base o5 fw4.size, a4.nt g (o5.lt g rfl).1, a4.nw n5, ⟨fun j hj => le4.tg j (Nat.lt_of_lt_of_le hj nw3.size), le4.rb, le4.sb, le4.zs, le4.cap⟩, p4, fw4.trans n5 (fun _ _ q => q.elim), e4.nw n5⟩)
  · have H4 : Hid (s4.At l B (K + (k + 1)) w4 ∧ s0.Le s4 w3 ∧ Pf (k + 1) s4 ∧ Fr s0.Ff w3 w4 ∧ Eng s4 w4 eb l.length) := ⟨a4, le4, p4, f4, e4⟩
    have HK : Hid (k < (tls l.length ls.flatten).length) := hk
    clear a4 le4 p4 f4 e4 hk
    go_wp2
    obtain ⟨a4, le4, p4, f4, e4⟩ := H4.out
    have nw3 := N2.out.tr N3.out
    exact bodyPost_ret (v := .tuple #[.slice none 0 0, sen x]) (by simp [results, Tryz.results50]) rfl (.inr ⟨s4, k, HK.out, rfl, a4, ⟨fun j hj => le4.tg j (Nat.lt_of_lt_of_le hj nw3.size), le4.rb, le4.sb, le4.zs, le4.cap⟩, p4, (nw3.mono (fun _ _ f => f.elim)).trans f4 (fun _ _ q => q), e4⟩)
set_option maxRecDepth 100000 in
set_option maxHeartbeats 4000000 in
theorem gans_batch {s0 : RS} {l : List (List UInt8)} {B K : Nat} {w : World} (h : s0.At l B K w) {eb : Nat} (he : Eng s0 w eb l.length) (hn : l.length ≤ 1048576) (q : Nat) (hq : q ≤ l.length) {a : Nat → Addr} (hG : Gd B a w) (caps : Array Value) (ls : List (List (Nat × Nat)))
    (hQ : ∀ V, Nw w V → Calls Tryz.prog 57 caps V fun e w' => ∃ v xs, e = .returned (.tuple #[v, .nilIface]) ∧ Pts w' V.heap.size v xs ls ∧ Nw V w')
    (hg : gdA l.length ls.flatten) (hls : ls.length ≤ 1000) (hls2 : ∀ cs ∈ ls, cs.length ≤ 1000) (hls3 : ls.flatten.length ≤ 100000)
    (P Pf : Nat → RS → Prop) (hP : P 0 s0) (x : Addr)
    (hstep : ∀ k t s, (tls l.length ls.flatten)[k]? = some t → P k s → (∀ V, s.At l B (K + k) V → Fr s0.Ff w V → s.Got l B (K + k) t.L t.I t.W (P (k + 1)) V) ∨ (∀ V, s.At l B (K + k) V → Fr s0.Ff w V → s.Fell l B (K + k) t.L t.I t.W x (Pf (k + 1)) V)) :
    Calls Tryz.prog 50 #[.pointer (some ⟨eb, 0, none⟩), .int .u64 (q : Int), .func (.func 57) #[] caps] w fun e w' =>
      (∃ s' g c, e = .returned (.tuple #[.slice (some ⟨g, 0, none⟩) ls.length c, .nilIface]) ∧ w'.ownsRow w.heap.size 64 32 (.slice (some ⟨g, 0, none⟩) ls.length c) ls.length (hsc (ls.map (phL l))) ∧ s'.tg g = 9 ∧ s'.At l B (K + (tls l.length ls.flatten).length) w' ∧ s0.Le s' w ∧ P (tls l.length ls.flatten).length s' ∧ Fr s0.Ff w w' ∧ Eng s' w' eb l.length) ∨
      (∃ s' k, k < (tls l.length ls.flatten).length ∧ e = .returned (.tuple #[.slice none 0 0, sen x]) ∧ s'.At l B (K + (k + 1)) w' ∧ s0.Le s' w ∧ Pf (k + 1) s' ∧ Fr s0.Ff w w' ∧ Eng s' w' eb l.length) := by
  have q0 := gthere_yes he
  obtain ⟨c0, c1⟩ := he.cs
  have leb := heap_lt he.blk
  have hlen : (tls l.length ls.flatten).length ≤ 100000 := Nat.le_trans (tls_len _ _) hls3
  have hbd : ∀ c ∈ ls.flatten, c.1 ≤ 255 ∧ c.2 < 18446744073709551616 := fun c hc => by
    obtain ⟨b1, b2, _⟩ := gdT_bd (hg c hc) hn
    exact ⟨b1, b2⟩
  have HQ : Hid (∀ V, Nw w V → Calls Tryz.prog 57 caps V fun e w' => ∃ v xs, e = .returned (.tuple #[v, .nilIface]) ∧ Pts w' V.heap.size v xs ls ∧ Nw V w') := hQ
  have HTL : Hid (∀ V u, Nw w V → Prt V u ls → Calls Tryz.prog 77 #[u, .int .u64 (l.length : Int)] V fun e w' => ∃ v, e = .returned (.tuple #[v, .nilIface]) ∧ w'.ownsRow V.heap.size 86 3 v (tls l.length ls.flatten).length (tic (tls l.length ls.flatten)) ∧ Nw V w') := fun V u nV hu =>
    (ptiles_any u ls l.length V hu hbd (by omega) (by omega) (by omega) (fun l hl => by have := hls2 l hl; omega) (hG.nw nV).s).mono fun e w' hh => hh.1 hg
  have HRD : Hid (∀ V u, Nw w V → V.ownsRow w.heap.size 86 3 u (tls l.length ls.flatten).length (tic (tls l.length ls.flatten)) → Calls Tryz.prog 78 #[.pointer (some ⟨eb, 0, none⟩), u] V fun e w' =>
      (∃ s' mb, e = .returned (.tuple #[.map (some mb), .nilIface]) ∧ s'.At l B (K + (tls l.length ls.flatten).length) w' ∧ s0.Le s' V ∧ P (tls l.length ls.flatten).length s' ∧ Fr s0.Ff V w' ∧ PcI s' w' mb l (tls l.length ls.flatten) ∧ Eng s' w' eb l.length) ∨
      (∃ s' k, k < (tls l.length ls.flatten).length ∧ e = .returned (.tuple #[.map none, sen x]) ∧ s'.At l B (K + (k + 1)) w' ∧ s0.Le s' V ∧ Pf (k + 1) s' ∧ Fr s0.Ff V w' ∧ Eng s' w' eb l.length)) := fun V u nV hu =>
    pread_any (h.nw nV) (he.nw nV) u _ (tis_tls hg hn) hu hlen (fun g hg => h.nt g (hu.lt g hg).1) P Pf hP x (fun k t s ht hp => (hstep k t s ht hp).imp (fun hh W aW fW => hh W aW ((nV.mono (fun _ _ f => f.elim)).trans fW (fun _ _ q => q))) (fun hh W aW fW => hh W aW ((nV.mono (fun _ _ f => f.elim)).trans fW (fun _ _ q => q))))
  have HPP : Hid (∀ (s' : RS) V V' u xs mb, Nw w V → Pts V w.heap.size u xs ls → Fr s0.Ff V V' → PcI s' V' mb l (tls l.length ls.flatten) → Calls Tryz.prog 79 #[.map (some mb), u] V' fun e w' => ∃ g c, e = .returned (.tuple #[.slice (some ⟨g, 0, none⟩) ls.length c, .nilIface]) ∧ w'.ownsRow V'.heap.size 64 32 (.slice (some ⟨g, 0, none⟩) ls.length c) ls.length (hsc (ls.map (phL l))) ∧ Nw V' w') := fun s' V V' u xs mb nV hp fV hpc => by
    have nf : ∀ g, w.heap.size ≤ g → ¬ s0.Ff g := fun g hg q => by have := h.nt g hg; unfold RS.Ff at q; omega
    have hp' : Pts V' w.heap.size u xs ls := ⟨ownsRow_keep hp.1 (fun g hg => fV.block g (hp.1.lt g hg).2 (nf g (hp.1.lt g hg).1)), hp.2.keep (fun x hx g hgs hg => by
      obtain ⟨m, hm⟩ := hp.2.at hx
      exact fV.block g hgs (nf g (hm.lt g hg).1))⟩
    exact pparts_hash (hpc.pcs (tis_tls hg hn)) h.h32 hn u ls (Prt.of hp') hls hls2 hg (fun c hc => ⟨tiN l.length c, (tls_memI _ _ _).2 ⟨c, hc, rfl⟩, rfl, rfl⟩) ((hG.nw nV).fr fV h.bt).l
  have HNT : Hid (∀ k, w.heap.size ≤ k → s0.tg k = 9) := h.nt
  obtain ⟨S, hS⟩ : ∃ S, S = l.length := ⟨_, rfl⟩
  obtain ⟨m, hm⟩ : ∃ m, m = ls.length := ⟨_, rfl⟩
  have hqS : ¬ (S : Int) < (q : Int) := by omega
  have hqd : decide (S < q) = false := by simp; omega
  have HM : Hid (m = ls.length) := hm
  have HSS : Hid (S = l.length) := hS
  rw [← hS] at c1 HTL
  clear h he hn hq hG hQ hg hls hls2 hls3 hP hstep hbd hlen c0 hS hm
  go_enter Tryz.func50, Tryz.ntmps50
  go_wp2_with fail
  refine q0.mono ?_
  rintro e w1 ⟨rfl, rfl⟩
  go_wp2_with fail
  refine (HQ.out _ (nwr _)).mono ?_
  rintro e w2 ⟨v2, xs, rfl, p2, n2⟩
  have P2 : Hid (Pts w2 w1.heap.size v2 xs ls) := p2
  have N2 : Hid (Nw w1 w2) := n2
  have c2 := n2.cellOf c1
  have le2 := Nat.lt_of_lt_of_le leb n2.size
  obtain ⟨va, vc, rfl⟩ := ownsRow_form p2.1
  clear p2 n2 c1
  go_wp2_with fail
  refine (HTL.out w2 _ N2.out (Prt.of P2.out)).mono ?_
  rintro e w3 ⟨v3, rfl, o3, n3⟩
  have N3 : Hid (Nw w2 w3) := n3
  have O3 : Hid (w3.ownsRow w1.heap.size 86 3 v3 (tls l.length ls.flatten).length (tic (tls l.length ls.flatten))) := ownsRow_base (by rw [← HSS.out] at *; exact o3) N2.out.size
  obtain ⟨ta, tc, rfl⟩ := ownsRow_form o3
  clear o3 n3 c2
  go_wp2_with fail
  refine (HRD.out w3 _ (N2.out.tr N3.out) O3.out).mono ?_
  rintro e w4 (⟨s4, mb, rfl, a4, le4, p4, f4, pc4, e4⟩ | ⟨s4, k, hk, rfl, a4, le4, p4, f4, e4⟩)
  · have H4 : Hid (s4.At l B (K + (tls l.length ls.flatten).length) w4 ∧ s0.Le s4 w3 ∧ P (tls l.length ls.flatten).length s4 ∧ Fr s0.Ff w3 w4 ∧ PcI s4 w4 mb l (tls l.length ls.flatten) ∧ Eng s4 w4 eb l.length) := ⟨a4, le4, p4, f4, pc4, e4⟩
    clear a4 le4 p4 f4 pc4 e4
    go_wp2_with fail
    refine (HPP.out s4 w3 w4 _ xs mb (N2.out.tr N3.out) (P2.out.nw N3.out) H4.out.2.2.2.1 H4.out.2.2.2.2.1).mono ?_
    rintro e w5 ⟨g, c, rfl, o5, n5⟩
    have O5 : Hid (w5.ownsRow w4.heap.size 64 32 (.slice (some ⟨g, 0, none⟩) ls.length c) ls.length (hsc (ls.map (phL l))) ∧ Nw w4 w5) := ⟨o5, n5⟩
    clear o5 n5
    go_wp2
    obtain ⟨a4, le4, p4, f4, pc4, e4⟩ := H4.out
    obtain ⟨o5, n5⟩ := O5.out
    have nw3 := N2.out.tr N3.out
    have fw4 : Fr s0.Ff w1 w4 := (nw3.mono (fun _ _ f => f.elim)).trans f4 (fun _ _ q => q)
    exact bodyPost_ret (v := .tuple #[.slice (some ⟨g, 0, none⟩) ls.length c, .nilIface]) (by simp [results, Tryz.results50]) rfl (.inl ⟨s4, g, c, rfl, ownsRow_base o5 fw4.size, a4.nt g (o5.lt g rfl).1, a4.nw n5, ⟨fun j hj => le4.tg j (Nat.lt_of_lt_of_le hj nw3.size), le4.rb, le4.sb, le4.zs, le4.cap⟩, p4, fw4.trans n5 (fun _ _ q => q.elim), e4.nw n5⟩)
  · have H4 : Hid (s4.At l B (K + (k + 1)) w4 ∧ s0.Le s4 w3 ∧ Pf (k + 1) s4 ∧ Fr s0.Ff w3 w4 ∧ Eng s4 w4 eb l.length) := ⟨a4, le4, p4, f4, e4⟩
    have HK : Hid (k < (tls l.length ls.flatten).length) := hk
    clear a4 le4 p4 f4 e4 hk
    go_wp2
    obtain ⟨a4, le4, p4, f4, e4⟩ := H4.out
    have nw3 := N2.out.tr N3.out
    exact bodyPost_ret (v := .tuple #[.slice none 0 0, sen x]) (by simp [results, Tryz.results50]) rfl (.inr ⟨s4, k, HK.out, rfl, a4, ⟨fun j hj => le4.tg j (Nat.lt_of_lt_of_le hj nw3.size), le4.rb, le4.sb, le4.zs, le4.cap⟩, p4, (nw3.mono (fun _ _ f => f.elim)).trans f4 (fun _ _ q => q), e4⟩)
end Go.Proofs.YtihmckficphccaaGreatDoor
