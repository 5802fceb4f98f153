/- TiledFails: a store restarted beside its reader; rows of numbers. -/
import Derived.Test.YtjkhcplnedcmeaaGreatDoorTga
import Derived.Deep.DeepCutAuto
namespace Go.Proofs.YtjkhcplnedcmeaaGreatDoor
open Go.RowKit
set_option linter.unusedVariables false
set_option linter.unusedSimpArgs false
/-- Is one of the first k numbers above lo and at most hi? -/
def fqT (zs : List Int) (lo hi : Int) (k : Nat) : Bool := (zs.take k).any fun z => decide (lo < z) && decide (z ≤ hi)
theorem fqT_zero (zs : List Int) (lo hi : Int) : fqT zs lo hi 0 = false := by simp [fqT]
theorem fqT_succ (zs : List Int) (lo hi : Int) (k : Nat) (hk : k < zs.length) : fqT zs lo hi (k + 1) = (fqT zs lo hi k || (decide (lo < zs.getD k 0) && decide (zs.getD k 0 ≤ hi))) := by
  unfold fqT
  rw [List.take_add_one, List.getElem?_eq_getElem hk, List.any_append]
  simp [List.getD_eq_getElem?_getD, List.getElem?_eq_getElem hk]
theorem RS.restart {s : RS} {l : List (List UInt8)} {B K : Nat} {w : World} (h : s.At l B K w) (p : Option Addr) (c : Nat) (zs : List Int) (hz : Iz w p zs) (hl : zs.length ≤ 17592186044416) (hok : okR 0 zs = true) :
    Calls Tryz.prog 20 #[.pointer (some ⟨s.sb, 0, none⟩), .agg #[.slice p zs.length c, .int .i64 0]] w fun e w' => ∃ s' : RS, e = .returned .nilIface ∧ s'.At l B K w' ∧ s'.zs = zs ∧ s'.rb = s.rb ∧ s'.sb = s.sb ∧ (∀ k, k < w.heap.size → s'.tg k = s.tg k) ∧ Fr (fun k => k = s.sb) w w' := by
  refine (srestart_anyG h.rm.st.blk p c zs 0 hz hl hok).mono fun e w' ⟨e1, ⟨g', h1, h2, h3, h4⟩, f⟩ => ?_
  have hrs : s.rb ≠ s.sb := fun q => by have := h.rm.tr; rw [q, h.rm.ts.1] at this; omega
  have lsb := heap_lt h.rm.st.blk
  have lrb := heap_lt h.rm.blk
  have lbm := h.rm.st.mp.lt
  let tg' : Nat → Nat := fun k => if k = g' then 1 else s.tg k
  have et : ∀ k, k < w.heap.size → tg' k = s.tg k := fun k hk => by show (if k = g' then 1 else s.tg k) = s.tg k; rw [if_neg (by omega)]
  have e2 : (fun k => tg' k = 2) = (fun k => s.tg k = 2) := funext fun k => propext (by
    show (if k = g' then 1 else s.tg k) = 2 ↔ s.tg k = 2
    by_cases hk : k = g'
    · rw [if_pos hk, hk, h.nt g' h1]; omega
    · rw [if_neg hk])
  refine ⟨{ s with tg := tg', p := some ⟨g', 0, none⟩, c := zs.length, zs := zs, cr := 0, rn := 0, wn := 0 }, e1, ⟨⟨(f.block _ lrb hrs).trans h.rm.blk, ⟨h3, h.rm.st.mp.fr f h.rm.st.nb, h4, fun g2 o2 e2 => by
    cases e2
    exact ⟨fun q => by have q2 : g' = s.sb := q; omega, fun q => by have q2 : g' = s.bm := q; omega⟩, h.rm.st.nb⟩, ?_, ?_, (et _ lrb).trans h.rm.tr, ⟨(et _ lsb).trans h.rm.ts.1, (et _ lbm).trans h.rm.ts.2.1, fun g o e => by cases e; show (if g' = g' then 1 else s.tg g') = 1; rw [if_pos rfl]⟩, fun g o e => by cases e; exact h2⟩, h.ct, h.hm, h.h32, fun k hk => ?_, h.b1, h.b2, fun k hk => ?_, hok, hl, ⟨Int.le_refl _, by show (0 : Int) ≤ K; omega⟩, h.x0, h.y0, h.n0⟩, rfl, rfl, rfl, et, f⟩
  · show CT.Cx w' (fun k => tg' k = 2) s.cb s.N s.cap s.L
    rw [e2]
    exact h.rm.ca.fr f (fun k _ hk q => by rw [q, h.rm.ts.1] at hk; omega)
  · intro z hz2
    obtain ⟨⟨g, hg, ht⟩, h32, ho⟩ := Rm.row_fr h.rm.row f (fun k hk q => by rw [q, h.rm.ts.1] at hk; omega) z hz2
    refine ⟨⟨g, hg, ?_⟩, h32, ho⟩
    have hgl : g < w.heap.size := by
      rcases Nat.lt_or_ge g w.heap.size with q | q
      · exact q
      · have := h.nt g q; omega
    exact (et g hgl).trans ht
  · show (if k = g' then 1 else s.tg k) = 9
    have := f.size
    rw [if_neg (by omega)]
    exact h.nt k (by omega)
  · have hk2 : (if k = g' then 1 else s.tg k) = 0 ∨ (if k = g' then 1 else s.tg k) = 1 ∨ (if k = g' then 1 else s.tg k) = 2 := hk
    by_cases hkg : k = g'
    · have := h.b1; omega
    · rw [if_neg hkg] at hk2
      exact h.bt k hk2
theorem okR_snocT (F : List Int) (z : Int) : okR 0 (F ++ [z]) = (okR 0 F && decide ((if F.length = 0 then 0 else F.getD (F.length - 1) 0) < z)) := by
  rw [okR_at (F ++ [z]) 0 F.length (by simp)]
  have e1 : (F ++ [z]).take F.length = F := by simp
  have e2 : (F ++ [z]).drop F.length = [z] := by simp
  rw [e1, e2]
  congr 1
  by_cases h : F.length = 0
  · rw [if_pos h, if_pos h]; simp [okR]
  · rw [if_neg h, if_neg h]
    have e3 : (F ++ [z]).getD (F.length - 1) 0 = F.getD (F.length - 1) 0 := by
      simp only [List.getD_eq_getElem?_getD]
      rw [List.getElem?_append_left (by omega)]
    rw [e3]; simp [okR]
theorem fq_outc {s0 s' : RS} {l : List (List UInt8)} {B K T : Nat} {w w' : World} {eb : Nat} {fl : Bool} (h : Outc s0 s' l B K T w w' eb fl) : fqT s0.zs s0.rn s'.rn s0.zs.length = fl := by
  unfold fqT
  rw [List.take_length]
  cases fl with
  | false =>
    rw [List.any_eq_false]
    intro z hz
    have := h.ok rfl z
    simp only [Bool.and_eq_true, decide_eq_true_eq, not_and, Int.not_le]
    intro h1
    rcases Int.lt_or_le s'.rn z with q | q
    · exact q
    · exact absurd hz (this h1 q)
  | true =>
    rw [List.any_eq_true]
    obtain ⟨h1, h2⟩ := h.no rfl
    exact ⟨s'.rn, h2, by simp [h1]⟩
theorem is_erf {B : Nat} {w : World} {a : Nat → Addr} (hS : Sent B w a) (fl : Bool) :
    Calls Tryz.prog 22 #[erf fl (a 6), .int .i64 7] w fun e w' => e = .returned (.bool fl) ∧ Nw w w' := by
  cases fl with
  | true => exact is_senI hS 6 (by decide) (by decide)
  | false => exact isE_any hS (.inl ⟨rfl, rfl, rfl⟩) 7
theorem infoZ : (Tryz.prog.info? 3).map (fun i => (i.zero, i.size, i.bytes)) = some (some (.int .i64 0), 1, 8) := by kernel_rfl
abbrev zcs (F : List Int) : List Value := F.map fun z => .int .i64 z
theorem zcs_iz {w : World} {base : Nat} {va : Option Addr} {vc n : Nat} {F : List Int} (hn : n = F.length) (h : w.ownsRow base 3 1 (.slice va n vc) n (zcs F)) : Iz w va F := fun j hj => by
  subst hn
  rcases h.2 with ⟨_, h1⟩ | ⟨g, cap, cur, hv, _⟩
  · omega
  · cases hv
    refine ⟨g, 0, rfl, ?_⟩
    rw [Nat.zero_add]
    have := h.cells (g := g) rfl j (.int .i64 (F.getD j 0)) (by simp [zcs, List.getD_eq_getElem?_getD, List.getElem?_eq_getElem hj])
    rw [addZ] at this
    exact this
end Go.Proofs.YtjkhcplnedcmeaaGreatDoor
namespace Go.Proofs.YtjkhcplnedcmeaaGreatDoor
open Go.RowKit
set_option linter.unusedVariables false
set_option linter.unusedSimpArgs false
theorem Hd16.rest {w wr w' : World} {n B K rb eb lb base : Nat} {v : Value} {qb : Nat} {qc : Array Value} {s s' : RS} (h : Hd16 w wr n B K rb eb lb base v qb qc s) (hB : B = w.heap.size) (A : s'.At (ldH n) B K w') (hrb : s'.rb = s.rb) (htg : ∀ k, k < wr.heap.size → s'.tg k = s.tg k) (f : Fr (fun k => k = s.sb) wr w') : Hd16 w w' n B K rb eb lb base v qb qc s' := by
  have t1 := h.at_.rm.ts.1
  refine ⟨A, ⟨by rw [hrb]; exact (f.block _ (heap_lt h.eng.blk) (fun q => by have := h.eng.tg; rw [q] at this; omega)).trans h.eng.blk, (htg _ (heap_lt h.eng.blk)).trans h.eng.tg⟩, hrb.trans h.rb, h.lg.fr f (fun q => by have := h.lt.1; rw [q] at this; omega) (fun g hg q => by have := h.lt.2 g hg; rw [q] at this; omega), ⟨(htg _ (heap_lt h.lg.blk)).trans h.lt.1, fun q hq => (htg _ (h.lg.own_lt q hq)).trans (h.lt.2 q hq)⟩, ⟨(f.block _ (heap_lt h.bx.1) (fun q => by have := h.bx.2; rw [q] at this; omega)).trans h.bx.1, (htg _ (heap_lt h.bx.1)).trans h.bx.2⟩, h.nw.trans f (fun j hj q => by have := h.at_.b1; omega)⟩
set_option maxRecDepth 100000 in
set_option maxHeartbeats 8000000 in
theorem fails16_any (lv cp : Int) (hlv : -9223372036854775808 ≤ lv ∧ lv ≤ 9223372036854775807) (hcp : -9223372036854775808 ≤ cp ∧ cp ≤ 9223372036854775807) (p : Option Addr) (qs : List (Int × Nat × Nat × Nat)) (c : Nat) (pz : Option Addr) (zs : List Int) (cz : Nat) (w : World) (hq : Qrs w p qs) (hqo : Qok qs) (hql : qs.length < 4611686018427387904) (hz : Iz w pz zs) (hzb : ∀ j, -9223372036854775808 ≤ zs.getD j 0 ∧ zs.getD j 0 ≤ 9223372036854775807) (hzl : zs.length ≤ 17592186044416) {a : Nat → Addr} (hG : Gd w.heap.size a w) (hT : TabAt w) :
    Calls Tryz.prog 4 #[.agg #[.int .i64 lv, .int .i64 cp, .slice p qs.length c], .slice pz zs.length cz] w fun e w' => e = .returned (.bool true) ∧ Nw w w' := by
  have QA : Hid (∀ V, Nw w V → Calls Tryz.prog 9 #[] V fun e w' => e = .returned (.bool true) ∧ Nw V w') := fun V nV => alive16_any (hG.nw nV) (hT.nw nV)
  have QL : Hid (∀ (k : Nat) V, k ≤ 1000 → Nw w V → Calls Tryz.prog 12 #[.int .i64 (k : Int)] V fun e w' => ∃ lb base v b bm g T M, e = .returned (.tuple #[.pointer (some ⟨lb, 0, none⟩), .pointer (some ⟨b, 0, none⟩), .bool true]) ∧ V.heap.size ≤ lb ∧ Lg w' lb base v (ldS k) ∧ Lt V w' b bm g T M ∧ HldA (ldH k) M ∧ T ≤ 100000 ∧ (lb ≠ b ∧ lb ≠ bm ∧ lb ≠ g) ∧ (∀ q, v.ownBlock = some q → q ≠ b ∧ q ≠ bm ∧ q ≠ g) ∧ Nw V w') := fun k V hk nV => lying_any k hk V (hG.nw nV) nV.size
  have GD : Hid (∀ V, Nw w V → Gd w.heap.size a V) := fun V nV => hG.nw nV
  have HT : Hid (∀ V, Nw w V → TabAt V) := fun V nV => hT.nw nV
  have HQ : Hid (∀ V, Nw w V → Qrs V p qs) := fun V nV => hq.nw nV
  have HZ : Hid ((∀ V, Nw w V → Iz V pz zs) ∧ ∀ j, -9223372036854775808 ≤ zs.getD j 0 ∧ zs.getD j 0 ≤ 9223372036854775807) := ⟨fun V nV => hz.nw nV, hzb⟩
  have HQO : Hid (Qok qs) := hqo
  obtain ⟨i0, hi0, hz0, hz1, hz2⟩ := info_parts infoZ
  have HI0 : Hid (Tryz.prog.info? 3 = some i0 ∧ i0.zero = some (.int .i64 0) ∧ i0.size = 1 ∧ i0.bytes = 8) := ⟨hi0, hz0, hz1, hz2⟩
  obtain ⟨n, hn⟩ : ∃ n, n = qs.length := ⟨_, rfl⟩
  have HN : Hid (n = qs.length) := hn
  rw [← hn] at hql ⊢
  obtain ⟨zl, hzn⟩ : ∃ n, n = zs.length := ⟨_, rfl⟩
  have HZN : Hid (zl = zs.length) := hzn
  rw [← hzn] at hzl ⊢
  obtain ⟨cu, hcu, hcb⟩ : ∃ u : Nat, IntKind.u64.wrap cp = (u : Int) ∧ u < 18446744073709551616 := by
    rw [IntKind.wrap_u64]
    exact ⟨(cp % 18446744073709551616).toNat, by omega, by omega⟩
  obtain ⟨cr, hcr⟩ : ∃ r, r = cu % 1025 := ⟨_, rfl⟩
  have hce : (cu : Int) % 1025 = (cr : Int) := by omega
  have hcrl : cr < 1025 := by omega
  clear hG hT hq hqo hn hcr hz hzb hzn hi0 hz0 hz1 hz2
  go_enter Tryz.func4, Tryz.ntmps4
  go_wp2_with fail
  refine (QA.out _ (by repeat first | with_reducible exact nwr w | with_reducible refine Fr.alloc ?_ _ | with_reducible refine Fr.drew ?_ | (with_reducible refine Fr.setCell ?_ _ _ (fun h => ?_); rotate_left; focus (simp only at h; omega)))).mono ?_
  rintro e w1 ⟨rfl, n1⟩
  have n01 : Nw w (w.alloc (.cells #[.int .i64 lv, .int .i64 cp, .slice p n c] 24)) := nwa w _
  have N1 : Hid (Nw w w1) := n01.tr n1
  have B1 : Hid (w1.heap[w.heap.size]? = some (.cells #[.int .i64 lv, .int .i64 cp, .slice p n c] 24)) := (n1.block _ (by simp) (fun f => f)).trans (heap_new _ _)
  have x0 := (cell_of B1.out 0).trans rfl
  have x1 := (cell_of B1.out 1).trans rfl
  have x2 := (cell_of B1.out 2).trans rfl
  have lx := heap_lt B1.out
  have q2 := beyond_any (some ⟨w1.heap.size, 0, none⟩) 2 [n, zl] _ (two_int w1 n zl) (getD_all (by intro k hk; simp only [List.mem_cons, List.not_mem_nil, or_false] at hk; rcases hk with rfl | rfl <;> omega)) (by simp)
  clear n1 n01
  go_wp2_with fail
  refine q2.mono ?_
  rintro e w2 ⟨rfl, h2⟩
  have N12 : Hid (Nw w1 w2) := by rw [h2]; exact nwa w1 _
  have N2 : Hid (Nw w w2) := N1.out.tr N12.out
  have B2 : Hid (w2.heap[w.heap.size]? = some (.cells #[.int .i64 lv, .int .i64 cp, .slice p n c] 24)) := (N12.out.block _ lx (fun f => f)).trans B1.out
  have x0 := (cell_of B2.out 0).trans rfl
  have x1 := (cell_of B2.out 1).trans rfl
  have x2 := (cell_of B2.out 2).trans rfl
  have lx := heap_lt B2.out
  clear h2 q2
  by_cases hbig : 1048576 < [n, zl].sum
  · rw [decide_eq_true hbig]
    clear hbig
    go_wp2_with fail
    refine (QA.out _ N2.out).mono ?_
    rintro e w3 ⟨rfl, n3⟩
    have N3 : Hid (Nw w w3) := N2.out.tr n3
    clear n3
    go_wp2
    go_ret
    exact ⟨rfl, N3.out⟩
  rw [decide_eq_false hbig]
  clear hbig
  go_wp2_with fail
  refine (num16_any lv hlv.1 hlv.2 _).mono ?_
  rintro e w3 ⟨k, rfl, hk1, hk2, rfl⟩
  go_wp2_with fail
  refine (QL.out k _ (by omega) N2.out).mono ?_
  rintro e w4 ⟨lb, base, v, b, bm, g, T, M, rfl, hlb, lg4, lt4, hld, hTt, hd1, hd2, n4⟩
  have N4 : Hid (Nw w w4) := N2.out.tr n4
  have B4 : Hid (w4.heap[w.heap.size]? = some (.cells #[.int .i64 lv, .int .i64 cp, .slice p n c] 24)) := (n4.block _ lx (fun f => f)).trans B2.out
  have x0 := (cell_of B4.out 0).trans rfl
  have x1 := (cell_of B4.out 1).trans rfl
  have x2 := (cell_of B4.out 2).trans rfl
  have hlx := lx
  have lx := heap_lt B4.out
  have hln : (ldH k).length = k := ldH_len k
  have q6 := RS.made (K := 0) (B := w.heap.size) lt4.2.2.2 hld (ldH_32 k) lt4.2.2.1.2 ⟨by have := lt4.1; omega, by have := lt4.2.1; omega, by have := lt4.2.2.1.1; omega⟩ rfl (by simp) ⟨Int.le_refl _, Int.le_refl _⟩ cr (by omega) (GD.out _ N4.out).s
  have HD : Hid (Lg w4 lb base v (ldS k) ∧ (lb ≠ b ∧ lb ≠ bm ∧ lb ≠ g) ∧ (∀ q, v.ownBlock = some q → q ≠ b ∧ q ≠ bm ∧ q ≠ g) ∧ w.heap.size ≠ b ∧ w.heap.size ≠ bm ∧ w.heap.size ≠ g) := ⟨lg4, hd1, hd2, by have := lt4.1; omega, by have := lt4.2.1; omega, by have := lt4.2.2.1.1; omega⟩
  clear lg4 lt4 hld hTt hd1 hd2 n4 hlb
  go_wp2_with fail
  refine q6.mono ?_
  rintro e w5 ⟨s, rfl, A5, hsb, hbm, hzs, hcap, hrn, hx, hy, hM, hL, htg, n5⟩
  have N5 : Hid (Nw w w5) := N4.out.tr n5
  have HA5 : Hid (s.At (ldH k) w.heap.size 0 w5) := A5
  have HSB : Hid (s.sb = b) := hsb
  have HD5 : Hid (Lg w5 lb base v (ldS k) ∧ w5.heap[w.heap.size]? = some (.cells #[.int .i64 lv, .int .i64 cp, .slice p n c] 24)) := ⟨HD.out.1.nw n5, (n5.block _ lx (fun f => f)).trans B4.out⟩
  have HLT : Hid ((s.tg lb = 9 ∧ ∀ q, v.ownBlock = some q → s.tg q = 9) ∧ s.tg w.heap.size = 9) := ⟨⟨htg _ (heap_lt HD.out.1.blk) HD.out.2.1.1 HD.out.2.1.2.1 HD.out.2.1.2.2, fun q hq => htg q (HD.out.1.own_lt q hq) (HD.out.2.2.1 q hq).1 (HD.out.2.2.1 q hq).2.1 (HD.out.2.2.1 q hq).2.2⟩, htg _ lx HD.out.2.2.2.1 HD.out.2.2.2.2.1 HD.out.2.2.2.2.2⟩
  have q7 := gnew_yes A5 k (by omega) (GD.out _ N5.out).s
  obtain ⟨rb, hrb⟩ : ∃ x, x = s.rb := ⟨_, rfl⟩
  have HRB : Hid (s.rb = rb) := hrb.symm
  rw [← hrb] at q7 ⊢
  clear q6 A5 hsb hbm hzs hcap hrn hx hy hM hL htg n5 hrb
  go_wp2_with fail
  refine q7.mono ?_
  rintro e w6 ⟨eb, rfl, en6, heb, n6⟩
  have HH6 : Hid (Hd16 w w6 k w.heap.size 0 rb eb lb base v w.heap.size #[.int .i64 lv, .int .i64 cp, .slice p n c] s) := ⟨HA5.out.nw n6, en6, HRB.out, HD5.out.1.nw n6, HLT.out.1, ⟨(n6.block _ (heap_lt HD5.out.2) (fun f => f)).trans HD5.out.2, HLT.out.2⟩, N5.out.tr n6⟩
  clear q7 en6 heb n6 x0 x1 x2
  obtain ⟨W0, hW0⟩ : ∃ x, x = w.heap.size := ⟨_, rfl⟩
  have HW0 : Hid (W0 = w.heap.size) := hW0
  rw [← hW0] at HH6 GD ⊢
  clear HA5 HD HD5 HLT B1 B2 B4 hW0 N1 N12 N2 N4 N5 hlx lx QL
  go_wp2
  go_loopw [13, 14] (fun u v wr => ∃ (i : Nat) (F : List Int) (va : Option Addr) (vc : Nat), i ≤ zl ∧ v = .int .i64 i ∧ u = .slice va F.length vc ∧ F.length ≤ i ∧ okR 0 F = true ∧ (∀ z ∈ F, -9223372036854775808 ≤ z ∧ z ≤ 9223372036854775807) ∧ wr.ownsRow w6.heap.size 3 1 (.slice va F.length vc) F.length (zcs F) ∧ Nw w6 wr) (fun _ v _ => zl - (intOf v).toNat)
  case atStart => exact ⟨0, [], none, 0, by omega, rfl, rfl, by simp, rfl, by simp, World.ownsRow_nil _ _ _ _, Fr.refl _ _⟩
  case round =>
    obtain ⟨i, F, va, vc, hi, rfl, rfl, hFi, hok, hFb, hown, hnw⟩ := hrel
    obtain ⟨m, hm⟩ : ∃ m, m = F.length := ⟨_, rfl⟩
    have HM : Hid (m = F.length) := hm
    rw [← hm] at hFi hown ⊢
    have HO : Hid (okR 0 F = true ∧ (∀ z ∈ F, -9223372036854775808 ≤ z ∧ z ≤ 9223372036854775807) ∧ wr.ownsRow w6.heap.size 3 1 (.slice va m vc) m (zcs F)) := ⟨hok, hFb, hown⟩
    have NR : Hid (Nw w6 wr) := hnw
    clear hm hok hFb hown hnw
    by_cases hlt : i < zl
    · have hlti : (i : Int) < (zl : Int) := by omega
      obtain ⟨gz, oz, hpz, cz0⟩ := HZ.out.1 wr (HH6.out.nw.tr NR.out) i (by rw [← HZN.out]; exact hlt)
      subst hpz
      have lgz := World.block_lt_of_cell? _ _ cz0
      simp only at lgz
      obtain ⟨hb1, hb2⟩ := HZ.out.2 i
      obtain ⟨z, hzd⟩ : ∃ z, z = zs.getD i 0 := ⟨_, rfl⟩
      rw [← hzd] at cz0 hb1 hb2
      have hoi : (oz : Int) + (i : Int) = ((oz + i : Nat) : Int) := by omega
      clear hoi hzd
      -- the number is taken or left
      have HT1 : Hid (∀ wz, Nw w6 wz → wz.ownsRow w6.heap.size 3 1 (.slice va m vc) m (zcs F) → ∃ (i' : Nat) (F' : List Int) (va' : Option Addr) (vc' : Nat), i' ≤ zl ∧ Value.int .i64 ((i : Int) + 1) = .int .i64 i' ∧ Value.slice va m vc = .slice va' F'.length vc' ∧ F'.length ≤ i' ∧ okR 0 F' = true ∧ (∀ z ∈ F', -9223372036854775808 ≤ z ∧ z ≤ 9223372036854775807) ∧ wz.ownsRow w6.heap.size 3 1 (.slice va' F'.length vc') F'.length (zcs F') ∧ Nw w6 wz) := fun wz nz oz => ⟨i + 1, F, va, vc, by omega, by go_num, by rw [HM.out], by have := HM.out; omega, HO.out.1, HO.out.2.1, by rw [← HM.out]; exact oz, nz⟩
      have HT2 : Hid (∀ wz v', (if m = 0 then 0 else F.getD (m - 1) 0) < z → Nw w6 wz → wz.ownsRow w6.heap.size 3 1 v' (m + 1) (zcs F ++ [.int .i64 z]) → ∃ (i' : Nat) (F' : List Int) (va' : Option Addr) (vc' : Nat), i' ≤ zl ∧ Value.int .i64 ((i : Int) + 1) = .int .i64 i' ∧ v' = .slice va' F'.length vc' ∧ F'.length ≤ i' ∧ okR 0 F' = true ∧ (∀ z ∈ F', -9223372036854775808 ≤ z ∧ z ≤ 9223372036854775807) ∧ wz.ownsRow w6.heap.size 3 1 (.slice va' F'.length vc') F'.length (zcs F') ∧ Nw w6 wz) := fun wz v' hc nz oz => by
        obtain ⟨va', vc', rfl⟩ := ownsRow_form oz
        have hl : (F ++ [z]).length = m + 1 := by rw [List.length_append, List.length_singleton, HM.out]
        refine ⟨i + 1, F ++ [z], va', vc', by omega, by go_num, by rw [hl], by rw [hl]; omega, ?_, ?_, ?_, nz⟩
        · rw [okR_snocT, HO.out.1, ← HM.out, decide_eq_true hc]; rfl
        · intro y hy
          rcases List.mem_append.1 hy with hy | hy
          · exact HO.out.2.1 y hy
          · rw [List.mem_singleton.1 hy]; exact ⟨hb1, hb2⟩
        · rw [hl]; simpa [zcs] using oz
      have HOW : Hid (m = 0 ∨ ∃ gf y, va = some ⟨gf, 0, none⟩ ∧ gf < wr.heap.size ∧ m ≤ vc ∧ wr.cell? ⟨gf, m - 1, none⟩ = some (.int .i64 y) ∧ y = F.getD (m - 1) 0) := by
        by_cases h0 : m = 0
        · exact .inl h0
        · refine .inr ?_
          obtain ⟨gf, of, e1, e2⟩ := zcs_iz HM.out HO.out.2.2 (m - 1) (by have := HM.out; omega)
          obtain ⟨gf', cap', hv, hcap, _⟩ := own_some HO.out.2.2 (by omega)
          injection hv with hv1 hv2 hv3
          rw [e1] at hv1
          injection hv1 with hv1
          injection hv1 with h1 h2
          subst h2
          rw [Nat.zero_add] at e2
          exact ⟨gf, _, e1, World.block_lt_of_cell? _ _ e2, by omega, e2, rfl⟩
      have HTW : Hid (∀ wz v' w5, Nw wr wz → wz.ownsRow w6.heap.size 3 1 (.slice va m vc) m (zcs F) → w5.ownsRow w6.heap.size 3 1 v' (m + 1) (zcs F ++ [.int .i64 z]) → Two wz w5 3 1 (.slice va m vc) v' m 1 (zcs F ++ [.int .i64 z]) → Nw w6 w5) := fun wz v' w5 nz oz o5 t5 => (NR.out.tr nz).trans t5.fr (fun j hj q => by have := (oz.lt j q).1; omega)
      have hml : m ≤ 17592186044416 := by omega
      have HB6 : Hid (w6.heap.size ≤ wr.heap.size) := NR.out.size
      have HKO : Hid (∀ wz, Nw wr wz → wz.ownsRow w6.heap.size 3 1 (.slice va m vc) m (zcs F)) := fun wz nz => ownsRow_keep HO.out.2.2 (fun k hk => nz.block k (HO.out.2.2.lt k hk).2 (fun f => f))
      by_cases hz0 : 0 < z
      · rcases HOW.out with h0 | ⟨gf, y, rfl, hgf, hmv, cf, hy⟩
        · subst h0
          go_wp2_with fail
          go_quiet (fail)
          have NQ : Hid (Nw wr (wr.drewN nq)) := (Fr.refl _ _).drewN nq
          go_wp2_with (at_builtin; refine wpList_two _ rfl (.tmp 118) (.tmp 123) 54 rfl w6.heap.size 3 i0 (.int .i64 0) 1 8 Tryz.underlying54 HI0.out.1 HI0.out.2.1 HI0.out.2.2.1 HI0.out.2.2.2 rfl (by decide) (.slice va 0 vc) 0 (zcs F) rfl ((HKO.out _ NQ.out).alloc _) ⟨(wr.drewN nq).heap.size, 0, none⟩ 1 1 [.int .i64 z] rfl rfl (text_new _ _ _) (by simp [Value.oneCell']) (by unfold maxLen; omega) (by omega) (by have := HB6.out; have := NQ.out.size; simp; omega) ?_; intro v' w5 o5 t5; have O5 : Hid (w5.ownsRow w6.heap.size 3 1 v' (0 + 1) (zcs F ++ [.int .i64 z]) ∧ Nw w6 w5) := ⟨o5, HTW.out _ v' w5 (NQ.out.alloc _) ((HKO.out _ NQ.out).alloc _) o5 t5⟩; clear o5 t5)
          exact ⟨HT2.out _ _ (by simpa using hz0) O5.out.2 O5.out.1, by simp [intOf]; omega⟩
        · have HY : Hid (y = F.getD (m - 1) 0) := hy
          by_cases hm0 : m = 0
          · subst hm0
            go_wp2_with fail
            go_quiet (fail)
            have NQ : Hid (Nw wr (wr.drewN nq)) := (Fr.refl _ _).drewN nq
            go_wp2_with (at_builtin; refine wpList_two _ rfl (.tmp 118) (.tmp 123) 54 rfl w6.heap.size 3 i0 (.int .i64 0) 1 8 Tryz.underlying54 HI0.out.1 HI0.out.2.1 HI0.out.2.2.1 HI0.out.2.2.2 rfl (by decide) (.slice (some ⟨gf, 0, none⟩) 0 vc) 0 (zcs F) rfl ((HKO.out _ NQ.out).alloc _) ⟨(wr.drewN nq).heap.size, 0, none⟩ 1 1 [.int .i64 z] rfl rfl (text_new _ _ _) (by simp [Value.oneCell']) (by unfold maxLen; omega) (by omega) (by have := HB6.out; have := NQ.out.size; simp; omega) ?_; intro v' w5 o5 t5; have O5 : Hid (w5.ownsRow w6.heap.size 3 1 v' (0 + 1) (zcs F ++ [.int .i64 z]) ∧ Nw w6 w5) := ⟨o5, HTW.out _ v' w5 (NQ.out.alloc _) ((HKO.out _ NQ.out).alloc _) o5 t5⟩; clear o5 t5)
            exact ⟨HT2.out _ _ (by simpa using hz0) O5.out.2 O5.out.1, by simp [intOf]; omega⟩
          obtain ⟨m1, hm1⟩ : ∃ m1, m1 = m - 1 := ⟨_, rfl⟩
          have hme : (m : Int) - 1 = (m1 : Int) := by omega
          have hml1 : (m1 : Int) < (m : Int) := by omega
          have hmz : ((m : Int) == 0) = false := by simp; omega
          have hmz2 : ¬ (m : Int) = 0 := by omega
          rw [← hm1] at cf hy
          have HM1 : Hid (m1 = m - 1) := hm1
          clear hm1 hy
          by_cases hyz : y < z
          · go_wp2_with fail
            go_quiet (fail)
            have NQ : Hid (Nw wr (wr.drewN nq)) := (Fr.refl _ _).drewN nq
            go_wp2_with (at_builtin; refine wpList_two _ rfl (.tmp 118) (.tmp 123) 54 rfl w6.heap.size 3 i0 (.int .i64 0) 1 8 Tryz.underlying54 HI0.out.1 HI0.out.2.1 HI0.out.2.2.1 HI0.out.2.2.2 rfl (by decide) (.slice (some ⟨gf, 0, none⟩) m vc) m (zcs F) rfl ((HKO.out _ NQ.out).alloc _) ⟨(wr.drewN nq).heap.size, 0, none⟩ 1 1 [.int .i64 z] rfl rfl (text_new _ _ _) (by simp [Value.oneCell']) (by unfold maxLen; omega) (by omega) (by have := HB6.out; have := NQ.out.size; simp; omega) ?_; intro v' w5 o5 t5; have O5 : Hid (w5.ownsRow w6.heap.size 3 1 v' (m + 1) (zcs F ++ [.int .i64 z]) ∧ Nw w6 w5) := ⟨o5, HTW.out _ v' w5 (NQ.out.alloc _) ((HKO.out _ NQ.out).alloc _) o5 t5⟩; clear o5 t5)
            exact ⟨HT2.out _ _ (by rw [if_neg hm0, ← HY.out]; exact hyz) O5.out.2 O5.out.1, by simp [intOf]; omega⟩
          · have hyz2 : ¬ (y < z) := hyz
            go_wp2_with fail
            go_quiet (fail)
            have NQ : Hid (Nw wr (wr.drewN nq)) := (Fr.refl _ _).drewN nq
            go_wp2
            exact ⟨HT1.out _ (NR.out.tr NQ.out) (HKO.out _ NQ.out), by simp [intOf]; omega⟩
      · have hzd : decide ((0 : Int) < z) = false := decide_eq_false hz0
        have hz1 : z ≤ 0 := by omega
        go_wp2_with fail
        go_quiet (fail)
        have NQ : Hid (Nw wr (wr.drewN nq)) := (Fr.refl _ _).drewN nq
        go_wp2
        exact ⟨HT1.out _ (NR.out.tr NQ.out) (HKO.out _ NQ.out), by simp [intOf]; omega⟩
    · have hlti : ¬ (i : Int) < (zl : Int) := by omega
      have q8 := RS.restart (HH6.out.at_.nw NR.out) va vc F (zcs_iz HM.out HO.out.2.2) (by have := HM.out; omega) HO.out.1
      rw [HSB.out, ← HM.out] at q8
      clear HZ
      go_wp2_with fail
      refine q8.mono ?_
      rintro e w7 ⟨s1, rfl, A7, hz1, hr1, hb1, ht1, f7⟩
      have HSB1 : Hid (s1.sb = b) := hb1
      have H7 : Hid (Hd16 w w7 k W0 0 rb eb lb base v W0 #[.int .i64 lv, .int .i64 cp, .slice p n c] s1) := (HH6.out.nwt NR.out).rest HW0.out A7 hr1 ht1 (by rw [HSB.out]; exact f7)
      have HZ7 : Hid (s1.zs = F) := hz1
      have HTF : Hid (∀ q, (Value.slice va m vc).ownBlock = some q → s1.tg q = 9) := fun q hq => (ht1 q (HO.out.2.2.lt q hq).2).trans (HH6.out.at_.nt q (HO.out.2.2.lt q hq).1)
      have HOF : Hid (w7.ownsRow w6.heap.size 3 1 (.slice va m vc) m (zcs F)) := ownsRow_keep HO.out.2.2 (fun q hq => f7.block q (HO.out.2.2.lt q hq).2 (fun e => by
        have h1 := (HO.out.2.2.lt q hq).1
        have h2 := heap_lt HH6.out.at_.rm.st.blk
        rw [HSB.out] at h2
        omega))
      have HML : Hid (m ≤ 17592186044416) := by have : m ≤ 17592186044416 := (by omega); exact this
      clear q8 A7 hz1 hr1 hb1 ht1 f7 HH6 HSB HRB hFi hlti hlt hi
      go_wp2
      go_loopw [15] (fun u wr => ∃ (i : Nat) (s : RS), i ≤ 200 ∧ i ≤ n ∧ u = .int .i64 i ∧ Hd16 w wr k W0 (400 * i) rb eb lb base v W0 #[.int .i64 lv, .int .i64 cp, .slice p n c] s ∧ s.zs = F ∧ s.sb = b ∧ (∀ q, (Value.slice va m vc).ownBlock = some q → s.tg q = 9) ∧ wr.ownsRow w6.heap.size 3 1 (.slice va m vc) m (zcs F)) (fun u _ => 200 - (intOf u).toNat)
      case atStart => exact ⟨0, s1, by omega, by omega, rfl, H7.out, HZ7.out, HSB1.out, HTF.out, HOF.out⟩
      case round =>
        clear H7 HZ7 HSB1 HTF HOF
        obtain ⟨i, s, hi, hin, rfl, hH, hz, hsb, htf, hof⟩ := hrel
        have HH : Hid (Hd16 w wr k W0 (400 * i) rb eb lb base v W0 #[.int .i64 lv, .int .i64 cp, .slice p n c] s) := hH
        have HZ : Hid (s.zs = F ∧ s.sb = b) := ⟨hz, hsb⟩
        have HTF : Hid (∀ q, (Value.slice va m vc).ownBlock = some q → s.tg q = 9) := htf
        have HOF : Hid (wr.ownsRow w6.heap.size 3 1 (.slice va m vc) m (zcs F)) := hof
        have NW : Hid (Nw w wr) := hH.nw
        have x2 := (cell_of hH.bx.1 2).trans rfl
        have lx := heap_lt hH.bx.1
        by_cases hlt : i < n ∧ i < 200
        · have hin2 : (i : Int) < (n : Int) := by omega
          have hi2 : (i : Int) < 200 := by omega
          have q9 := scounts_any hH.at_.rm.st.blk
          rw [hsb] at q9
          obtain ⟨xa, hxa⟩ : ∃ x, x = s.rn := ⟨_, rfl⟩
          have HXA : Hid (s.rn = xa) := hxa.symm
          rw [← hxa] at q9
          obtain ⟨⟨kd, x, y, z⟩, hqi⟩ : ∃ q, qs[i]? = some q := ⟨_, List.getElem?_eq_getElem (by have := HN.out; omega)⟩
          obtain ⟨⟨kb1, kb2⟩, hxl, hyl, hzl⟩ := HQO.out _ (List.mem_of_getElem? hqi)
          simp only at kb1 kb2 hxl hyl hzl
          clear hH hz hxa hsb htf hof
          go_wp2_with fail
          refine q9.mono ?_
          rintro e w8 ⟨rfl, n8⟩
          have NW8 : Hid (Nw w w8) := NW.out.tr n8
          have H8 : Hid (Hd16 w w8 k W0 (400 * i) rb eb lb base v W0 #[.int .i64 lv, .int .i64 cp, .slice p n c] s) := HH.out.nwt n8
          have HOF8 : Hid (w8.ownsRow w6.heap.size 3 1 (.slice va m vc) m (zcs F)) := ownsRow_keep HOF.out (fun q hq => n8.block q (HOF.out.lt q hq).2 (fun f => f))
          obtain ⟨gq, oq, rfl, hgq, c0, c1, c2, c3⟩ := HQ.out w8 NW8.out i kd x y z hqi
          have x2 := (cell_of H8.out.bx.1 2).trans rfl
          have lx := heap_lt H8.out.bx.1
          have q10 := ansf_any H8.out.at_ H8.out.eng H8.out.lg H8.out.lt ⟨hk1, by omega⟩ (GD.out _ NW8.out) (HT.out _ NW8.out) (by omega) kd x y z hxl hyl hzl
          clear n8 q9
          go_wp2_with fail
          refine q10.mono ?_
          rintro e w9 ⟨sz, hs1, hs2, fl, s9, T9, va9, vb, cb, X, rfl, h32, hva, hvb, hXl, oc, lg9, hT4, hfew⟩
          have H9 : Hid (Hd16 w w9 k W0 (400 * i + T9) rb eb lb base v W0 #[.int .i64 lv, .int .i64 cp, .slice (some ⟨gq, oq, none⟩) n c] s9) := H8.out.nx HW0.out hln oc lg9 H8.out.lg.own_lt
          have HX9 : Hid (s9.zs = F ∧ s9.sb = b ∧ T9 ≤ 400) := ⟨oc.le.zs.trans HZ.out.1, oc.le.sb.trans HZ.out.2, hT4⟩
          have HTF9 : Hid (∀ q, (Value.slice va m vc).ownBlock = some q → s9.tg q = 9) := fun q hq => (oc.le.tg q (HOF8.out.lt q hq).2).trans (HTF.out q hq)
          have HOF9 : Hid (w9.ownsRow w6.heap.size 3 1 (.slice va m vc) m (zcs F)) := ownsRow_keep HOF8.out (fun q hq => oc.fr.block q (HOF8.out.lt q hq).2 (fun e => by have := HTF.out q hq; unfold RS.Ff at e; omega))
          have NW9 : Hid (Nw w w9) := H9.out.nw
          have HFQ : Hid (fqT F xa s9.rn m = fl) := by
            have := fq_outc oc
            rw [HZ.out.1, HXA.out, ← HM.out] at this
            exact this
          have x2 := (cell_of H9.out.bx.1 2).trans rfl
          have lx := heap_lt H9.out.bx.1
          have q11 := scounts_any H9.out.at_.rm.st.blk
          rw [HX9.out.2.1] at q11
          obtain ⟨xb, hxb⟩ : ∃ x, x = s9.rn := ⟨_, rfl⟩
          rw [← hxb] at q11 HFQ
          have HS : Hid (fl = false → ∃ ad ca, va9 = .slice ad X.length ca ∧ ∀ V, Nw w9 V → Calls Tryz.prog 18 #[.slice ad X.length ca, .slice vb X.length cb] V fun e w' => e = .returned (.bool true) ∧ Nw V w') := fun hf => by
            obtain ⟨ad, ca, rfl, hva⟩ := hva hf
            exact ⟨ad, ca, rfl, fun V nV => sameh_yes _ _ X h32 V (hva.nw h32 nV) (hvb.nw h32 nV) (by omega)⟩
          have HIS : Hid (∀ V, Nw w9 V → Calls Tryz.prog 22 #[erf fl (a 6), .int .i64 7] V fun e w' => e = .returned (.bool fl) ∧ Nw V w') := fun V nV => is_erf (GD.out _ (NW9.out.tr nV)).s fl
          obtain ⟨M9, hm9⟩ : ∃ m, m = X.length := ⟨_, rfl⟩
          rw [← hm9] at HS hXl ⊢
          clear oc lg9 hva hvb h32 hfew hm9 q10 c0 c1 c2 c3 hT4 hxb
          go_wp2_with fail
          refine q11.mono ?_
          rintro e w10 ⟨rfl, n10⟩
          have N10 : Hid (Nw w9 w10) := n10
          have HOF10 : Hid (Iz w10 va F) := zcs_iz HM.out (ownsRow_keep HOF9.out (fun q hq => n10.block q (HOF9.out.lt q hq).2 (fun f => f)))
          clear q11 n10
          go_wp2
          go_loopw [25, 26] (fun u v wr => ∃ j : Nat, j ≤ m ∧ v = .int .i64 j ∧ u = .bool (fqT F xa xb j) ∧ wr = w10) (fun _ v _ => m - (intOf v).toNat)
          case atStart => exact ⟨0, by omega, rfl, by rw [fqT_zero], rfl⟩
          case round =>
            obtain ⟨j, hj, rfl, rfl, rfl⟩ := hrel
            by_cases hjm : j < m
            · have hji : (j : Int) < (m : Int) := by omega
              have hjb : j ≤ 17592186044416 := by have := HML.out; omega
              have FS : Hid (fqT F xa xb (j + 1) = (fqT F xa xb j || (decide (xa < F.getD j 0) && decide (F.getD j 0 ≤ xb)))) := fqT_succ F xa xb j (by rw [← HM.out]; exact hjm)
              obtain ⟨gf, of, hpf, cf⟩ := HOF10.out j (by rw [← HM.out]; exact hjm)
              subst hpf
              obtain ⟨y0, hy0⟩ : ∃ z, z = F.getD j 0 := ⟨_, rfl⟩
              rw [← hy0] at FS cf
              have lgf := World.block_lt_of_cell? _ _ cf
              clear hy0
              obtain ⟨fb, hfb⟩ : ∃ fb, fb = fqT F xa xb j := ⟨_, rfl⟩
              rw [← hfb] at FS ⊢
              clear hfb
              cases fb with
              | true =>
                go_wp2
                exact ⟨⟨j + 1, by omega, by go_num, by rw [FS.out]; simp, by first | rfl | trivial⟩, by simp [intOf]; omega⟩
              | false =>
                by_cases z1 : xa < y0
                · have a1 : decide (xa < y0) = true := decide_eq_true z1
                  by_cases z2 : y0 ≤ xb
                  · have a2 : decide (y0 ≤ xb) = true := decide_eq_true z2
                    go_wp2
                    exact ⟨⟨j + 1, by omega, by go_num, by rw [FS.out, a1, a2]; rfl, by first | rfl | trivial⟩, by simp [intOf]; omega⟩
                  · have a2 : decide (y0 ≤ xb) = false := decide_eq_false z2
                    go_wp2
                    exact ⟨⟨j + 1, by omega, by go_num, by rw [FS.out, a1, a2]; rfl, by first | rfl | trivial⟩, by simp [intOf]; omega⟩
                · have a1 : decide (xa < y0) = false := decide_eq_false z1
                  go_wp2
                  exact ⟨⟨j + 1, by omega, by go_num, by rw [FS.out, a1]; rfl, by first | rfl | trivial⟩, by simp [intOf]; omega⟩
            · have hjm2 : j = m := by omega
              have hji : ¬ (j : Int) < (m : Int) := by omega
              have efl : fqT F xa xb j = fl := by rw [hjm2]; exact HFQ.out
              rw [efl]
              clear efl hjm hjm2
              go_wp2_with fail
              refine (HIS.out _ N10.out).mono ?_
              rintro e w11 ⟨rfl, n11⟩
              have N11 : Hid (Nw w9 w11) := N10.out.tr n11
              have HEND : Hid (∀ V, Nw w9 V → ∃ (i' : Nat) (s : RS), i' ≤ 200 ∧ i' ≤ n ∧ Value.int .i64 ((i : Int) + 1) = .int .i64 i' ∧ Hd16 w V k W0 (400 * i') rb eb lb base v W0 #[.int .i64 lv, .int .i64 cp, .slice (some ⟨gq, oq, none⟩) n c] s ∧ s.zs = F ∧ s.sb = b ∧ (∀ q, (Value.slice va m vc).ownBlock = some q → s.tg q = 9) ∧ V.ownsRow w6.heap.size 3 1 (.slice va m vc) m (zcs F)) := fun V nV => ⟨i + 1, s9, by omega, by omega, by go_num, (H9.out.nwt nV).more (by have := HX9.out.2.2; omega), HX9.out.1, HX9.out.2.1, HTF9.out, ownsRow_keep HOF9.out (fun q hq => nV.block q (HOF9.out.lt q hq).2 (fun f => f))⟩
              clear n11
              cases fl with
              | true =>
                go_wp2
                exact ⟨HEND.out _ N11.out, by simp [intOf]; omega⟩
              | false =>
                obtain ⟨ad, ca, rfl, hsm⟩ := HS.out rfl
                have e1 : erf false (a 6) = .nilIface := rfl
                rw [e1]
                clear e1
                go_wp2_with fail
                refine (hsm _ N11.out).mono ?_
                rintro e w12 ⟨rfl, n12⟩
                have N12 : Hid (Nw w9 w12) := N11.out.tr n12
                clear n12 hsm
                go_wp2
                exact ⟨HEND.out _ N12.out, by simp [intOf]; omega⟩
        · have hX : ¬ (i : Int) < (n : Int) ∨ ((i : Int) < (n : Int) ∧ ¬ (i : Int) < 200) := by omega
          have q12 := RS.restart hH.at_ none 0 [] (fun j hj => by simp at hj) (by simp) rfl
          rw [hsb] at q12
          have HEX : Hid (∀ w7 s', s'.At (ldH k) W0 (400 * i) w7 → s'.zs = [] → s'.rb = s.rb → (∀ k, k < wr.heap.size → s'.tg k = s.tg k) → Fr (fun k => k = b) wr w7 → Hd16 w w7 k W0 80000 rb eb lb base v W0 #[.int .i64 lv, .int .i64 cp, .slice p n c] s' ∧ s'.zs = []) := fun w7 s' A hz hr ht f => ⟨(HH.out.rest HW0.out A hr ht (by rw [HZ.out.2]; exact f)).more (by omega), hz⟩
          have HLAST : Hid (∀ w7 s', Hd16 w w7 k W0 80000 rb eb lb base v W0 #[.int .i64 lv, .int .i64 cp, .slice p n c] s' → s'.zs = [] → True) := fun _ _ _ _ => trivial
          have QQ : Hid (Calls Tryz.prog 20 #[.pointer (some ⟨b, 0, none⟩), .agg #[.slice none 0 0, .int .i64 0]] wr fun e w7 => e = .returned .nilIface ∧ ∃ s', Hd16 w w7 k W0 80000 rb eb lb base v W0 #[.int .i64 lv, .int .i64 cp, .slice p n c] s' ∧ s'.zs = []) := q12.mono fun e w7 ⟨s', e1, A, hz, hr, _, ht, f⟩ => ⟨e1, s', HEX.out w7 s' A hz hr ht f⟩
          clear q12 hH hz hsb htf hof HEX HLAST HH HZ HTF HOF hi hin
          have HCUT : ∀ cb : Bool, cb = false → True := fun _ _ => trivial
          go_upto_region 18 with fail
          go_cut [138] (fun u wx => u = .bool false ∧ wr = wx)
          case first =>
            rcases hX with h1 | ⟨h1, h2⟩
            · go_wp2
              go_meet
              exact ⟨rfl, rfl⟩
            · go_wp2
              go_meet
              exact ⟨rfl, rfl⟩
          case rest =>
          obtain ⟨rfl, rfl⟩ := hcut
          clear HCUT hX hlt x2 lx
          go_wp2_with fail
          refine QQ.out.mono ?_
          rintro e w7 ⟨rfl, s2, hd2, hz2⟩
          have HD2 : Hid (Hd16 w w7 k W0 80000 rb eb lb base v W0 #[.int .i64 lv, .int .i64 cp, .slice p n c] s2 ∧ s2.zs = []) := ⟨hd2, hz2⟩
          clear hd2 hz2 QQ
          go_wp2
          go_loopw [27] (fun u wr => ∃ (i : Nat) (s : RS), i ≤ 200 ∧ i ≤ n ∧ u = .int .i64 i ∧ Hd16 w wr k W0 (80000 + 400 * i) rb eb lb base v W0 #[.int .i64 lv, .int .i64 cp, .slice p n c] s ∧ s.zs = []) (fun u _ => 200 - (intOf u).toNat)
          case atStart => exact ⟨0, s2, by omega, by omega, rfl, HD2.out.1, HD2.out.2⟩
          case round =>
            clear HD2
            obtain ⟨i, s, hi, hin, rfl, hH, hz⟩ := hrel
            have HH : Hid (Hd16 w wr k W0 (80000 + 400 * i) rb eb lb base v W0 #[.int .i64 lv, .int .i64 cp, .slice p n c] s) := hH
            have HZ : Hid (s.zs = []) := hz
            have NW : Hid (Nw w wr) := hH.nw
            have x2 := (cell_of hH.bx.1 2).trans rfl
            have lx := heap_lt hH.bx.1
            by_cases hlt : i < n ∧ i < 200
            · have hin2 : (i : Int) < (n : Int) := by omega
              have hi2 : (i : Int) < 200 := by omega
              obtain ⟨⟨kd, x, y, z⟩, hqi⟩ : ∃ q, qs[i]? = some q := ⟨_, List.getElem?_eq_getElem (by have := HN.out; omega)⟩
              obtain ⟨⟨kb1, kb2⟩, hxl, hyl, hzl⟩ := HQO.out _ (List.mem_of_getElem? hqi)
              simp only at kb1 kb2 hxl hyl hzl
              obtain ⟨gq, oq, rfl, hgq, c0, c1, c2, c3⟩ := HQ.out wr NW.out i kd x y z hqi
              have q10 := ansf_any hH.at_ hH.eng hH.lg hH.lt ⟨hk1, by omega⟩ (GD.out _ NW.out) (HT.out _ NW.out) (by omega) kd x y z hxl hyl hzl
              clear hH hz
              go_wp2_with fail
              refine q10.mono ?_
              rintro e w9 ⟨sz, hs1, hs2, fl, s9, T9, va, vb, cb, X, rfl, h32, hva, hvb, hXl, oc, lg9, hT4, hfew⟩
              have hfl : fl = false := by
                cases fl with
                | false => rfl
                | true => have := (oc.no rfl).2; rw [HZ.out] at this; simp at this
              subst hfl
              obtain ⟨ad, ca, rfl, hva⟩ := hva rfl
              have H9 : Hid (Hd16 w w9 k W0 (80000 + 400 * i + T9) rb eb lb base v W0 #[.int .i64 lv, .int .i64 cp, .slice (some ⟨gq, oq, none⟩) n c] s9) := HH.out.nx HW0.out hln oc lg9 HH.out.lg.own_lt
              have HX9 : Hid (s9.zs = [] ∧ T9 ≤ 400) := ⟨oc.le.zs.trans HZ.out, hT4⟩
              have e1 : erf false (a 6) = .nilIface := rfl
              rw [e1]
              have hsm := sameh_yes _ _ X h32 w9 hva hvb (by omega)
              obtain ⟨M9, hm9⟩ : ∃ m, m = X.length := ⟨_, rfl⟩
              rw [← hm9] at hsm hXl ⊢
              clear oc lg9 hva hvb h32 hfew hm9 q10 c0 c1 c2 c3 e1 hT4 x2 lx
              go_wp2_with fail
              refine hsm.mono ?_
              rintro e w11 ⟨rfl, n11⟩
              have H11 : Hid (Hd16 w w11 k W0 (80000 + 400 * (i + 1)) rb eb lb base v W0 #[.int .i64 lv, .int .i64 cp, .slice (some ⟨gq, oq, none⟩) n c] s9) := (H9.out.nwt n11).more (by have := HX9.out.2; omega)
              clear n11 hsm
              go_wp2
              exact ⟨⟨i + 1, s9, by omega, by omega, by go_num, H11.out, HX9.out.1⟩, by simp [intOf]; omega⟩
            · have hX : ¬ (i : Int) < (n : Int) ∨ ((i : Int) < (n : Int) ∧ ¬ (i : Int) < 200) := by omega
              clear hH hz
              rcases hX with h1 | ⟨h1, h2⟩
              · go_wp2
                go_ret
                exact ⟨rfl, NW.out⟩
              · go_wp2
                go_ret
                exact ⟨rfl, NW.out⟩
end Go.Proofs.YtjkhcplnedcmeaaGreatDoor
