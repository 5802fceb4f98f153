/- compact: Load. -/
import Derived.Test.YthbimomhbeoieaaDoorX14
namespace Go.Proofs.YthbimomhbeoieaaDoor
open Go.RowKit Go.Shelf
set_option linter.unusedVariables false
set_option linter.unusedSimpArgs false
/-- Trees with their hashes. -/
def zpt (l : List (Nat × Nat)) (L : List (List UInt8)) : List Tre := List.zipWith (fun c h => ⟨c.1, c.2, h⟩) l L
theorem zpt_get {l : List (Nat × Nat)} {L : List (List UInt8)} {k : Nat} {c : Nat × Nat} {h : List UInt8} (hc : l[k]? = some c) (hh : L[k]? = some h) : (zpt l L)[k]? = some ⟨c.1, c.2, h⟩ := by
  simp [zpt, List.getElem?_zipWith, hc, hh]
theorem zpt_len {l : List (Nat × Nat)} {L : List (List UInt8)} (h : L.length = l.length) : (zpt l L).length = l.length := by simp [zpt, h]
theorem zpt_hss : ∀ (l : List (Nat × Nat)) (L : List (List UInt8)), L.length = l.length → hss (zpt l L) = L
  | [], [], _ => rfl
  | c :: l, x :: L, h => by
    have := zpt_hss l L (by simpa using h)
    simp only [hss, zpt, List.zipWith_cons_cons, List.map_cons] at this ⊢
    rw [this]
theorem zpt_ats : ∀ (l : List (Nat × Nat)) (L : List (List UInt8)), L.length = l.length → ats (zpt l L) = l
  | [], [], _ => rfl
  | c :: l, x :: L, h => by
    have := zpt_ats l L (by simpa using h)
    simp only [ats, zpt, List.zipWith_cons_cons, List.map_cons] at this ⊢
    rw [this]
theorem zpt_ok (b e : Nat) (hbe : b ≤ e) (he : e ≤ 9223372036854775808) (L : List (List UInt8)) (h32 : ∀ x ∈ L, x.length = 32) : ∀ t ∈ zpt (cov b e) L, t.ok := by
  intro t ht
  obtain ⟨k, hk⟩ := List.getElem?_of_mem ht
  unfold zpt at hk
  rw [List.getElem?_zipWith] at hk
  cases hc : (cov b e)[k]? with
  | none => simp [hc] at hk
  | some c =>
    cases hh : L[k]? with
    | none => simp [hc, hh] at hk
    | some x =>
      simp [hc, hh] at hk
      subst hk
      exact ⟨row_may _ b e (cov_side hbe) he c (List.mem_of_getElem? hc), h32 x (List.mem_of_getElem? hh)⟩
set_option maxRecDepth 100000 in
set_option maxHeartbeats 1000000 in
theorem rload_arg {w : World} (b e : Nat) (hbe : b ≤ e) (he : e ≤ 9223372036854775808) (ad : Option Addr) (l hcap : Nat) (hlen : l ≠ (cov b e).length) (hT : TabAt w) {B : Nat} {a : Nat → Addr} (hS : Sent B w a) :
    Calls Tryd.prog 21 #[sp b e, .slice ad l hcap] w fun x w' => x = .returned (.tuple #[.pointer none, sen (a 1)]) ∧ Nw w w' := by
  have CW : Hid (w.cell? ⟨2, 0, none⟩ = some (sen (a 1))) := hS.c1
  have QC : Hid (∀ V, Nw w V → Calls Tryd.prog 17 #[sp b e] V fun x w' => ∃ v, x = .returned (.tuple #[v, .nilIface]) ∧ w'.ownsRow V.heap.size 52 2 v (cov b e).length (fl (cov b e)) ∧ Nw V w') := fun V nV => cover_yes b e hbe he V (hT.nw nV)
  obtain ⟨C, hC⟩ : ∃ C, C = cov b e := ⟨_, rfl⟩
  rw [← hC] at hlen QC
  obtain ⟨n, hn⟩ : ∃ n, n = C.length := ⟨_, rfl⟩
  rw [← hn] at hlen QC
  have hli : ¬ (l : Int) = (n : Int) := by omega
  clear hT hS hbe he hC hn hlen
  go_enter Tryd.func21, Tryd.ntmps21
  go_upto_region 1 with fail
  obtain ⟨w0, hw0⟩ : ∃ q, w.alloc (.cells #[.int .u64 (b : Int), .int .u64 (e : Int)] 27) = q := ⟨_, rfl⟩
  have n0 : Nw w w0 := by rw [← hw0]; exact nwa w _
  have b0 : w0.heap[w.heap.size]? = some (.cells #[.int .u64 (b : Int), .int .u64 (e : Int)] 27) := by rw [← hw0]; exact heap_new _ _
  rw [hw0]
  clear hw0
  obtain ⟨sb, hsb⟩ : ∃ q, q = w.heap.size := ⟨_, rfl⟩
  rw [← hsb] at b0 ⊢
  clear hsb
  have c0 : w0.cell? ⟨sb, 0, none⟩ = some (.int .u64 (b : Int)) := (cell_of b0 0).trans rfl
  have c1 : w0.cell? ⟨sb, 1, none⟩ = some (.int .u64 (e : Int)) := (cell_of b0 1).trans rfl
  have ls := heap_lt b0
  have N0 : Hid (Nw w w0) := n0
  clear n0 b0
  go_wp2_with fail
  refine (QC.out _ N0.out).mono ?_
  rintro x w1 ⟨cv, rfl, hown, n1⟩
  obtain ⟨ca, cc, rfl⟩ := ownsRow_form hown
  have N1 : Hid (Nw w w1) := N0.out.tr n1
  have e1 := N1.out.cellOf CW.out
  have hne : ∀ W : World, (binOp .neq 34 .nilIface .nilIface).run Tryd.prog W = .ok (.bool false) W := fun W => by kernel_rfl
  clear c0 c1 ls n1 hown
  go_wp2_with fail
  go_quiet (fail)
  go_wp2
  refine bodyPost_ret (v := .tuple #[.pointer none, sen (a 1)]) (by simp [results, Tryd.results21]) rfl ⟨rfl, N1.out.drewN nq⟩
set_option maxRecDepth 100000 in
set_option maxHeartbeats 4000000 in
theorem rload_yes {w : World} (b e : Nat) (hbe : b ≤ e) (he : e ≤ 9223372036854775808) (hv : Value) (L : List (List UInt8)) (h32 : ∀ x ∈ L, x.length = 32) (hH : Hss w hv L) (hlen : L.length = (cov b e).length) (hT : TabAt w) (hL : Laid w) :
    Calls Tryd.prog 21 #[sp b e, hv] w fun x w' => ∃ rb base v, x = .returned (.tuple #[.pointer (some ⟨rb, 0, none⟩), .nilIface]) ∧ Rg w' rb base v b e (zpt (cov b e) L) ∧ w.heap.size ≤ rb ∧ rb < base ∧ Nw w w' := by
  obtain ⟨i0, hi, hz0, hz1, hz2⟩ := info_parts infoTr
  obtain ⟨ad, hcap, rfl⟩ := hH.form
  have HLW : Hid (Laid w) := hL
  have HH : Hid (Hss w (.slice ad L.length hcap) L) := hH
  have H32 : Hid (∀ x ∈ L, x.length = 32) := h32
  have hl128 : (cov b e).length ≤ 128 := cov_len b e (by rw [p63]; exact he)
  have QC : Hid (∀ V, Nw w V → Calls Tryd.prog 17 #[sp b e] V fun x w' => ∃ v, x = .returned (.tuple #[v, .nilIface]) ∧ w'.ownsRow V.heap.size 52 2 v (cov b e).length (fl (cov b e)) ∧ Nw V w') := fun V nV => cover_yes b e hbe he V (hT.nw nV)
  have OKA : Hid (∀ t ∈ zpt (cov b e) L, t.ok) := zpt_ok b e hbe he L h32
  have ZL : Hid ((zpt (cov b e) L).length = (cov b e).length) := zpt_len hlen
  obtain ⟨C, hC⟩ : ∃ C, C = cov b e := ⟨_, rfl⟩
  rw [← hC] at hlen hl128 QC OKA ZL ⊢
  obtain ⟨n, hn⟩ : ∃ n, n = C.length := ⟨_, rfl⟩
  rw [← hn] at hlen hl128 QC ZL
  rw [hlen] at HH ⊢
  have HN : Hid (C.length = n) := hn.symm
  have HNL : Hid (L.length = n) := hlen
  clear hH h32 hT hL hbe he hC hn hlen
  go_enter Tryd.func21, Tryd.ntmps21
  go_upto_region 1 with fail
  obtain ⟨w0, hw0⟩ : ∃ q, w.alloc (.cells #[.int .u64 (b : Int), .int .u64 (e : Int)] 27) = q := ⟨_, rfl⟩
  have n0 : Nw w w0 := by rw [← hw0]; exact nwa w _
  have b0 : w0.heap[w.heap.size]? = some (.cells #[.int .u64 (b : Int), .int .u64 (e : Int)] 27) := by rw [← hw0]; exact heap_new _ _
  rw [hw0]
  clear hw0
  obtain ⟨sb, hsb⟩ : ∃ q, q = w.heap.size := ⟨_, rfl⟩
  rw [← hsb] at b0 ⊢
  have HSB : Hid (sb = w.heap.size) := hsb
  clear hsb
  have c0 : w0.cell? ⟨sb, 0, none⟩ = some (.int .u64 (b : Int)) := (cell_of b0 0).trans rfl
  have c1 : w0.cell? ⟨sb, 1, none⟩ = some (.int .u64 (e : Int)) := (cell_of b0 1).trans rfl
  have ls := heap_lt b0
  have N0 : Hid (Nw w w0) := n0
  clear n0 b0
  go_wp2_with fail
  refine (QC.out _ N0.out).mono ?_
  rintro x w1 ⟨cv, rfl, hown, n1⟩
  obtain ⟨ca, cc, rfl⟩ := ownsRow_form hown
  have HO : Hid (w1.ownsRow w0.heap.size 52 2 (.slice ca n cc) n (fl C)) := hown
  have d0 := n1.cellOf c0
  have d1 := n1.cellOf c1
  have ls1 := Nat.lt_of_lt_of_le ls n1.size
  have N1 : Hid (Nw w w1) := N0.out.tr n1
  have hne : ∀ W : World, (binOp .neq 34 .nilIface .nilIface).run Tryd.prog W = .ok (.bool false) W := fun W => by kernel_rfl
  clear c0 c1 ls n1 hown
  go_wp2_with fail
  obtain ⟨w2, hw2⟩ : ∃ q, w1.alloc (.cells #[.bool true, .int .u64 (b : Int), .int .u64 (e : Int), .slice none 0 0] 30) = q := ⟨_, rfl⟩
  have n2 : Nw w1 w2 := by rw [← hw2]; exact nwa w1 _
  have s2 : w2.heap.size = w1.heap.size + 1 := by rw [← hw2]; simp
  have b2 : w2.heap[w1.heap.size]? = some (.cells #[.bool true, .int .u64 (b : Int), .int .u64 (e : Int), .slice none 0 0] 30) := by rw [← hw2]; exact heap_new _ _
  rw [hw2]
  clear hw2
  obtain ⟨rb, hrb⟩ : ∃ q, q = w1.heap.size := ⟨_, rfl⟩
  rw [← hrb] at b2 s2 ⊢
  have HRB : Hid (rb = w1.heap.size) := hrb
  have R2 : Hid (Rg w2 rb (rb + 1) (.slice none 0 0) b e []) := ⟨b2, World.ownsRow_nil _ _ _ _, by omega, by simp, ⟨by have := HLW.out.lt; have := N1.out.size; omega, by have := HLW.out.lt; have := N1.out.size; omega⟩, by simp [Value.ownBlock]⟩
  have N2 : Hid (Nw w1 w2) := n2
  clear hrb b2 n2 s2 d0 d1 ls1
  go_loopw [30] (fun i wr => ∃ (k : Nat) (v : Value), k ≤ n ∧ i = .int .i64 (k : Int) ∧ Rg wr rb (rb + 1) v b e ((zpt C L).take k) ∧ Nw w1 wr) (fun i _ => n - (intOf i).toNat)
  case atStart => exact ⟨0, _, by omega, rfl, R2.out, N2.out⟩
  case round =>
    obtain ⟨k, v, hk, rfl, hR, hW⟩ := hrel
    have HK : Hid (k ≤ n) := hk
    by_cases hlt : k < n
    · obtain ⟨c, hc⟩ : ∃ c, C[k]? = some c := ⟨_, List.getElem?_eq_getElem (by have := HN.out; omega)⟩
      obtain ⟨h, hh⟩ : ∃ h, L[k]? = some h := ⟨_, List.getElem?_eq_getElem (by have := HNL.out; omega)⟩
      have ht := zpt_get hc hh
      have hto : Tre.ok ⟨c.1, c.2, h⟩ := OKA.out _ (List.mem_of_getElem? ht)
      have htk : (zpt C L).take (k + 1) = (zpt C L).take k ++ [⟨c.1, c.2, h⟩] := by rw [List.take_add_one, ht]; rfl
      obtain ⟨f1, f2⟩ := fl_get C k c hc
      have hown := ownsRow_keep HO.out (fun g hg => hW.block g (HO.out.lt g hg).2 (fun f => f))
      obtain ⟨cg, hcg⟩ : ∃ cg, ca = some ⟨cg, 0, none⟩ := by
        rcases hown.2 with ⟨_, q⟩ | ⟨g', _, _, q, _⟩
        · omega
        · cases q; exact ⟨_, rfl⟩
      subst hcg
      have k1 : wr.cell? ⟨cg, k * 2, none⟩ = some (.int .u8 (c.1 : Int)) := by have := hown.cells (g := cg) rfl _ _ f1; rwa [addZ] at this
      have k2 : wr.cell? ⟨cg, k * 2 + 1, none⟩ = some (.int .u64 (c.2 : Int)) := by have := hown.cells (g := cg) rfl _ _ f2; rwa [addZ] at this
      have HHr := HH.out.nw H32.out (N1.out.tr hW)
      rw [← HNL.out] at HHr
      obtain ⟨hg, hoff, had, hcs⟩ : ∃ g off, ad = some ⟨g, off, none⟩ ∧ ∀ j, j < 32 → wr.cell? ⟨g, off + k * 32 + j, none⟩ = (hbs h)[j]? := by
        obtain ⟨ad', cap', q1, q2⟩ := HHr
        cases q1
        exact q2 k h hh
      subst had
      obtain ⟨t, hte⟩ : ∃ t : Tre, t = ⟨c.1, c.2, h⟩ := ⟨_, rfl⟩
      obtain ⟨cl, ci⟩ := c
      have htL : t.L = cl := by rw [hte]
      have htI : t.I = ci := by rw [hte]
      have htH : t.H = h := by rw [hte]
      simp only at k1 k2 hte htk hto
      rw [← hte] at htk hto
      rw [← htL] at k1
      rw [← htI] at k2
      rw [← htH] at hcs
      have HU : Hid t.ok := hto
      have HTK : Hid ((zpt C L).take (k + 1) = (zpt C L).take k ++ [t]) := htk
      have HCS : Hid (∀ j, j < 32 → wr.cell? ⟨hg, hoff + k * 32 + j, none⟩ = (hbs t.H)[j]?) := hcs
      have HW : Hid (Nw w1 wr) := hW
      have HR : Hid (Rg wr rb (rb + 1) v b e ((zpt C L).take k)) := hR
      have PL : ((zpt C L).take k).length = k := by rw [List.length_take, ZL.out]; omega
      have HPL : Hid (((zpt C L).take k).length = k) := PL
      have hu34 : t.c.size = 34 := Tre.size hto.h32
      have hh32 : (hbs t.H).size = 32 := by rw [hbs_size, hto.h32]
      have hki : (k : Int) < (n : Int) := by omega
      obtain ⟨xa, xc, hvf⟩ : ∃ xa xc, v = .slice xa k xc := by have := ownsRow_form hR.own; rw [PL] at this; exact this
      subst hvf
      clear f1 f2 hown HHr hcs hto htk hc hh ht hte htL htI htH hW hR PL hk
      go_upto_region 10 with fail
      have hlr := HR.out.lt
      obtain ⟨wq, hwq⟩ : ∃ q, wr.alloc (.cells #[.int .u8 (t.L : Int), .int .u64 (t.I : Int)] 52) = q := ⟨_, rfl⟩
      have NQ : Hid (Nw wr wq) := by show Nw _ _; rw [← hwq]; exact nwa wr _
      have bq : wq.heap[wr.heap.size]? = some (.cells #[.int .u8 (t.L : Int), .int .u64 (t.I : Int)] 52) := by rw [← hwq]; exact heap_new _ _
      rw [hwq]
      clear hwq
      obtain ⟨tb, htb⟩ : ∃ q, q = wr.heap.size := ⟨_, rfl⟩
      rw [← htb] at bq ⊢
      have HTB : Hid (tb = wr.heap.size) := htb
      have BQ : Hid (wq.heap[tb]? = some (.cells #[.int .u8 (t.L : Int), .int .u64 (t.I : Int)] 52)) := bq
      have HR2 : Hid (Rg wq rb (rb + 1) (.slice xa k xc) b e ((zpt C L).take k)) := HR.out.nw NQ.out
      have HT32 : Hid (t.H.length = 32) := HU.out.h32
      have HGL : Hid (hg < w1.heap.size) := by
        show hg < w1.heap.size
        have q := HH.out
        rw [← HNL.out] at q
        obtain ⟨ad', cap', q1, q2⟩ := q.nw H32.out N1.out
        cases q1
        obtain ⟨h', hh'⟩ : ∃ h', L[k]? = some h' := ⟨_, List.getElem?_eq_getElem (by have := HNL.out; omega)⟩
        obtain ⟨g', off', q3, q4⟩ := q2 k h' hh'
        cases q3
        have q5 := q4 0 (by omega)
        rw [Array.getElem?_eq_getElem (by rw [hbs_size, H32.out _ (List.mem_of_getElem? hh')]; omega)] at q5
        exact World.block_lt_of_cell? w1 _ q5
      have KP : Hid (∀ V, Nw wq V → V.heap[tb]? = some (.cells #[.int .u8 (t.L : Int), .int .u64 (t.I : Int)] 52) ∧ ∀ j, j < 32 → V.cell? ⟨hg, hoff + k * 32 + j, none⟩ = (hbs t.H)[j]?) := fun V nV => ⟨(nV.block _ (heap_lt BQ.out) (fun f => f)).trans BQ.out, fun j hj => by
        have h5 : (hbs t.H)[j]? = some (hbs t.H)[j] := Array.getElem?_eq_getElem (by omega)
        rw [h5]
        exact (NQ.out.tr nV).cellOf ((HCS.out j hj).trans h5)⟩
      have KT : Hid (∀ V, Nw wq V → ∀ V', Fr (fun j => (Value.slice xa k xc).ownBlock = some j) V V' → V'.heap[tb]? = some (.cells #[.int .u8 (t.L : Int), .int .u64 (t.I : Int)] 52) ∧ ∀ j, j < 32 → V'.cell? ⟨hg, hoff + k * 32 + j, none⟩ = (hbs t.H)[j]?) := fun V nV V' fV => ⟨(fV.block tb (heap_lt (KP.out V nV).1) (fun q => by have := (HR.out.own.lt tb q).2; have := HTB.out; omega)).trans (KP.out V nV).1, fun j hj => (fV.cell (p := ⟨hg, hoff + k * 32 + j, none⟩) (by show hg < _; have := HGL.out; have := (HW.out.tr (NQ.out.tr nV)).size; omega) (fun q => by have q' := (HR.out.own.lt hg q).1; have := HGL.out; have := HRB.out; omega)).trans ((KP.out V nV).2 j hj)⟩
      have KU : Hid (∀ V : World, ∀ u, (V.heap[tb]? = some (.cells #[.int .u8 (t.L : Int), .int .u64 (t.I : Int)] 52) ∧ ∀ j, j < 32 → V.cell? ⟨hg, hoff + k * 32 + j, none⟩ = (hbs t.H)[j]?) → ((V.setCell ⟨rb, 3, none⟩ u).heap[tb]? = some (.cells #[.int .u8 (t.L : Int), .int .u64 (t.I : Int)] 52) ∧ ∀ j, j < 32 → (V.setCell ⟨rb, 3, none⟩ u).cell? ⟨hg, hoff + k * 32 + j, none⟩ = (hbs t.H)[j]?)) := fun V u q => by
        have h1 := HTB.out
        have h2 := HGL.out
        have h3 := HRB.out
        have hf : Fr (fun k => k = rb) V (V.setCell ⟨rb, 3, none⟩ u) := Fr.setCell (Fr.refl _ _) _ _ (fun _ => rfl)
        refine ⟨(hf.block tb (heap_lt q.1) (fun e => by omega)).trans q.1, fun j hj => ?_⟩
        have h5 : (hbs t.H)[j]? = some (hbs t.H)[j] := Array.getElem?_eq_getElem (by omega)
        have h6 := q.2 j hj
        rw [h5] at h6 ⊢
        exact (hf.cell (p := ⟨hg, hoff + k * 32 + j, none⟩) (World.block_lt_of_cell? V _ h6) (fun e => by have e' : hg = rb := e; omega)).trans h6
      clear htb bq k1 k2 hlr
      have nb : Nw wq wq.drew := (Fr.refl _ _).drew
      have HKN : Hid ((k : Int) < (n : Int)) := hki
      refine wp_region_held_drew (S := fun V => V.heap[tb]? = some (.cells #[.int .u8 (t.L : Int), .int .u64 (t.I : Int)] 52) ∧ ∀ j, j < 32 → V.cell? ⟨hg, hoff + k * 32 + j, none⟩ = (hbs t.H)[j]?) (by kernel_rfl) (KP.out _ nb) ?_
      intro hS0
      refine wpAnyH_take (i := 0) (v := .pointer (some ⟨rb, 0, none⟩)) rfl (by kernel_rfl) (by kernel_rfl) (by kernel_rfl) (fun _ _ _ h => h) (Or.inl ⟨by rfl, by intro w hw; go_simp⟩) hS0 ?_
      try simp only [Act.put, List.setIfInBounds_toArray, List.set_cons_zero, List.set_cons_succ]
      refine wpAnyH_take (i := 1) (v := .pointer (some ⟨rb, 0, none⟩)) rfl (by kernel_rfl) (by kernel_rfl) (by kernel_rfl) (fun _ _ _ h => h) (Or.inl ⟨by rfl, by intro w hw; go_simp⟩) hS0 ?_
      try simp only [Act.put, List.setIfInBounds_toArray, List.set_cons_zero, List.set_cons_succ]
      refine wpAnyH_take (i := 2) (v := .pointer (some ⟨rb, 0, none⟩)) rfl (by kernel_rfl) (by kernel_rfl) (by kernel_rfl) (fun _ _ _ h => h) (Or.inl ⟨by rfl, by intro w hw; go_simp⟩) hS0 ?_
      try simp only [Act.put, List.setIfInBounds_toArray, List.set_cons_zero, List.set_cons_succ]
      refine wpAnyH_take (i := 3) (v := .pointer (some ⟨rb, 3, none⟩)) rfl (by kernel_rfl) (by kernel_rfl) (by kernel_rfl) (fun _ _ _ h => h) (Or.inl ⟨by rfl, by intro w hw; go_simp⟩) hS0 ?_
      try simp only [Act.put, List.setIfInBounds_toArray, List.set_cons_zero, List.set_cons_succ]
      refine wpAnyH_take (i := 5) (v := .agg #[.int .u8 (t.L : Int), .int .u64 (t.I : Int)]) rfl (by kernel_rfl) (by kernel_rfl) (by kernel_rfl) (fun _ _ _ h => h) (yields_load_agg rfl (.tmp 10) 52 2 rfl Tryd.isAgg52 Tryd.sizeOf52 tb (by kernel_rfl) 52 #[.int .u8 (t.L : Int), .int .u64 (t.I : Int)] rfl (fun V hV => hV.1)) hS0 ?_
      try simp only [Act.put, List.setIfInBounds_toArray, List.set_cons_zero, List.set_cons_succ]
      refine wpAnyH_take (i := 6) (v := .slice (some ⟨hg, hoff, none⟩) n hcap) rfl (by kernel_rfl) (by kernel_rfl) (by kernel_rfl) (fun _ _ _ h => h) (Or.inl ⟨by rfl, by intro w hw; go_simp⟩) hS0 ?_
      try simp only [Act.put, List.setIfInBounds_toArray, List.set_cons_zero, List.set_cons_succ]
      refine wpAnyH_take (i := 7) (v := .int .i64 (k : Int)) rfl (by kernel_rfl) (by kernel_rfl) (by kernel_rfl) (fun _ _ _ h => h) (Or.inl ⟨by rfl, by intro w hw; go_simp⟩) hS0 ?_
      try simp only [Act.put, List.setIfInBounds_toArray, List.set_cons_zero, List.set_cons_succ]
      refine wpAnyH_take (i := 8) (v := .pointer (some ⟨hg, hoff + k * 32, none⟩)) rfl (by kernel_rfl) (by kernel_rfl) (by kernel_rfl) (fun _ _ _ h => h) (Or.inl ⟨by rfl, by intro w hw; have hki := HKN.out; go_simp⟩) hS0 ?_
      try simp only [Act.put, List.setIfInBounds_toArray, List.set_cons_zero, List.set_cons_succ]
      refine wpAnyH_take (i := 9) (v := .agg (hbs t.H)) rfl (by kernel_rfl) (by kernel_rfl) (by kernel_rfl) (fun _ _ _ h => h) (yields_load_at rfl (.tmp 43) 24 32 rfl Tryd.isAgg24 Tryd.sizeOf24 hg (hoff + k * 32) (by kernel_rfl) (hbs t.H) hh32 (fun V hV => hV.2)) hS0 ?_
      try simp only [Act.put, List.setIfInBounds_toArray, List.set_cons_zero, List.set_cons_succ]
      refine wpAnyH_take (i := 10) (v := .agg t.c) rfl (by kernel_rfl) (by kernel_rfl) (by kernel_rfl) (fun _ _ _ h => h) (yields_build rfl 68 #[(0, .tmp 40), (1, .tmp 44)] rfl #[(0, .agg #[.int .u8 (t.L : Int), .int .u64 (t.I : Int)]), (1, .agg (hbs t.H))] (by kernel_rfl) t.c (fun W => built_t t HT32.out W)) hS0 ?_
      try simp only [Act.put, List.setIfInBounds_toArray, List.set_cons_zero, List.set_cons_succ]
      refine wpAnyH_ready (rs := [4, 11]) (by kernel_rfl) (by simp) ?_
      refine AllReadyH.cons rfl (fun K' hK => ?_) (AllReadyH.cons rfl (fun K' hK => ?_) AllReadyH.nil)
      · have cq : (wq.drew).cell? ⟨rb, 3, none⟩ = some (.slice xa k xc) := (HR2.out.nw nb).cs.2.2.2
        have lq := heap_lt (HR2.out.nw nb).blk
        have cq0 : wq.cell? ⟨rb, 3, none⟩ = some (.slice xa k xc) := HR2.out.cs.2.2.2
        have lq0 := heap_lt HR2.out.blk
        go_simp
        refine hK.out _ _ (KP.out _ (nb)) (fun hS0 => ?_)
        try simp only [Act.put, List.setIfInBounds_toArray, List.set_cons_zero, List.set_cons_succ]
        refine wpAnyH_ready (rs := [11]) (by kernel_rfl) (by simp) ?_
        refine AllReadyH.cons rfl (fun K' hK => ?_) AllReadyH.nil
        show if Region.wanted (Oper.mk _ _ _ _ _ _) _ = true then _ else _
        refine step_build1 rfl (.tmp 45) 28 68 rfl t.c (by kernel_rfl) (build1t t.c hu34) ?_
        have n1 : Nw wq (wq.drew.alloc (.cells t.c 68)) := nb.tr (nwa _ _)
        have TN := tre_new wq.drew t 68
        refine hK.out _ _ (KP.out _ (n1)) (fun hS0 => ?_)
        try simp only [Act.put, List.setIfInBounds_toArray, List.set_cons_zero, List.set_cons_succ]
        refine wpAnyH_ready (rs := [12]) (by kernel_rfl) (by simp) ?_
        refine AllReadyH.cons rfl (fun K' hK => ?_) AllReadyH.nil
        have R1 := HR2.out.nw n1
        have o1 := R1.own
        rw [HPL.out] at o1
        show if Region.wanted (Oper.mk _ _ _ _ _ _) _ = true then _ else _
        refine step_two rfl (.tmp 39) (.tmp 46) 28 rfl (rb + 1) 68 i0 (.agg zt.c) 34 48 Tryd.underlying28 hi hz0 hz1 hz2 zt34 (by decide) (.slice xa k xc) k (tsc ((zpt C L).take k)) (by kernel_rfl) o1 ⟨wq.drew.heap.size, 0, none⟩ 1 1 t.c.toList (by kernel_rfl) (by rw [Array.length_toList, hu34]) TN (Tre.one _) (by unfold maxLen; omega) (by omega) R1.lt.2 ?_
        intro v' w5 o5 t5
        have QP := Rg.put HR2.out HU.out n1 (by rw [HPL.out]; exact o5) (by rw [HPL.out]; exact t5)
        obtain ⟨ya, yc, rfl⟩ := ownsRow_form o5
        obtain ⟨hb5, R5, S5, F5⟩ := QP
        have n5 : Nw w5 w5 := Fr.refl _ _
        have KS : w5.heap[tb]? = some (.cells #[.int .u8 (t.L : Int), .int .u64 (t.I : Int)] 52) ∧ ∀ j, j < 32 → w5.cell? ⟨hg, hoff + k * 32 + j, none⟩ = (hbs t.H)[j]? := KT.out _ n1 _ t5.fr
        have cb5 : w5.cell? ⟨rb, 3, none⟩ = some (.slice xa k xc) := (cell_of hb5 3).trans rfl
        have fb5 := frozen_of hb5 3
        have lb5 := heap_lt hb5
        refine hK.out _ _ ((KS)) (fun hS0 => ?_)
        try simp only [Act.put, List.setIfInBounds_toArray, List.set_cons_zero, List.set_cons_succ]
        refine wpAnyH_take (i := 13) (v := .pointer (some ⟨rb, 0, none⟩)) rfl (by kernel_rfl) (by kernel_rfl) (by kernel_rfl) (fun _ _ _ h => h) (Or.inl ⟨by rfl, by intro w hw; go_simp⟩) hS0 ?_
        try simp only [Act.put, List.setIfInBounds_toArray, List.set_cons_zero, List.set_cons_succ]
        refine wpAnyH_take (i := 14) (v := .pointer (some ⟨rb, 3, none⟩)) rfl (by kernel_rfl) (by kernel_rfl) (by kernel_rfl) (fun _ _ _ h => h) (Or.inl ⟨by rfl, by intro w hw; go_simp⟩) hS0 ?_
        try simp only [Act.put, List.setIfInBounds_toArray, List.set_cons_zero, List.set_cons_succ]
        refine wpAnyH_ready (rs := [15]) (by kernel_rfl) (by simp) ?_
        refine AllReadyH.cons rfl (fun K' hK => ?_) AllReadyH.nil
        go_simp
        refine hK.out _ _ ?_ (fun hS0 => ?_)
        · exact KU.out _ _ KS
        try simp only [Act.put, List.setIfInBounds_toArray, List.set_cons_zero, List.set_cons_succ]
        refine wpAnyH_done (by kernel_rfl) ?_ _
        rw [← HTK.out] at R5
        have R5' : Hid (Rg (w5.setCell ⟨rb, 3, none⟩ (.slice ya (k + 1) yc)) rb (rb + 1) (.slice ya (k + 1) yc) b e ((zpt C L).take (k + 1))) := R5
        have F5' : Hid (Nw w1 (w5.setCell ⟨rb, 3, none⟩ (.slice ya (k + 1) yc))) := (HW.out.tr NQ.out).trans F5 (fun j hj q => by
          have h1 := HRB.out
          rcases q with q | q
          · omega
          · have := (HR.out.own.lt j q).1; omega)
        clear R5 F5 S5 cb5 fb5 lb5 hb5 KS t5 o5 o1 R1
        go_wp2_with fail
        exact ⟨⟨k + 1, _, by omega, by go_num, R5'.out, F5'.out⟩, by simp [intOf]; omega⟩
      · show if Region.wanted (Oper.mk _ _ _ _ _ _) _ = true then _ else _
        refine step_build1 rfl (.tmp 45) 28 68 rfl t.c (by kernel_rfl) (build1t t.c hu34) ?_
        have n1 : Nw wq (wq.drew.alloc (.cells t.c 68)) := nb.tr (nwa _ _)
        have TN := tre_new wq.drew t 68
        refine hK.out _ _ (KP.out _ (n1)) (fun hS0 => ?_)
        try simp only [Act.put, List.setIfInBounds_toArray, List.set_cons_zero, List.set_cons_succ]
        refine wpAnyH_ready (rs := [4]) (by kernel_rfl) (by simp) ?_
        refine AllReadyH.cons rfl (fun K' hK => ?_) AllReadyH.nil
        have cq : (wq.drew.alloc (.cells t.c 68)).cell? ⟨rb, 3, none⟩ = some (.slice xa k xc) := (HR2.out.nw n1).cs.2.2.2
        have lq := heap_lt (HR2.out.nw n1).blk
        have cq0 : wq.cell? ⟨rb, 3, none⟩ = some (.slice xa k xc) := HR2.out.cs.2.2.2
        have lq0 := heap_lt HR2.out.blk
        go_simp
        refine hK.out _ _ (KP.out _ (n1)) (fun hS0 => ?_)
        try simp only [Act.put, List.setIfInBounds_toArray, List.set_cons_zero, List.set_cons_succ]
        refine wpAnyH_ready (rs := [12]) (by kernel_rfl) (by simp) ?_
        refine AllReadyH.cons rfl (fun K' hK => ?_) AllReadyH.nil
        have R1 := HR2.out.nw n1
        have o1 := R1.own
        rw [HPL.out] at o1
        show if Region.wanted (Oper.mk _ _ _ _ _ _) _ = true then _ else _
        refine step_two rfl (.tmp 39) (.tmp 46) 28 rfl (rb + 1) 68 i0 (.agg zt.c) 34 48 Tryd.underlying28 hi hz0 hz1 hz2 zt34 (by decide) (.slice xa k xc) k (tsc ((zpt C L).take k)) (by kernel_rfl) o1 ⟨wq.drew.heap.size, 0, none⟩ 1 1 t.c.toList (by kernel_rfl) (by rw [Array.length_toList, hu34]) TN (Tre.one _) (by unfold maxLen; omega) (by omega) R1.lt.2 ?_
        intro v' w5 o5 t5
        have QP := Rg.put HR2.out HU.out n1 (by rw [HPL.out]; exact o5) (by rw [HPL.out]; exact t5)
        obtain ⟨ya, yc, rfl⟩ := ownsRow_form o5
        obtain ⟨hb5, R5, S5, F5⟩ := QP
        have n5 : Nw w5 w5 := Fr.refl _ _
        have KS : w5.heap[tb]? = some (.cells #[.int .u8 (t.L : Int), .int .u64 (t.I : Int)] 52) ∧ ∀ j, j < 32 → w5.cell? ⟨hg, hoff + k * 32 + j, none⟩ = (hbs t.H)[j]? := KT.out _ n1 _ t5.fr
        have cb5 : w5.cell? ⟨rb, 3, none⟩ = some (.slice xa k xc) := (cell_of hb5 3).trans rfl
        have fb5 := frozen_of hb5 3
        have lb5 := heap_lt hb5
        refine hK.out _ _ ((KS)) (fun hS0 => ?_)
        try simp only [Act.put, List.setIfInBounds_toArray, List.set_cons_zero, List.set_cons_succ]
        refine wpAnyH_take (i := 13) (v := .pointer (some ⟨rb, 0, none⟩)) rfl (by kernel_rfl) (by kernel_rfl) (by kernel_rfl) (fun _ _ _ h => h) (Or.inl ⟨by rfl, by intro w hw; go_simp⟩) hS0 ?_
        try simp only [Act.put, List.setIfInBounds_toArray, List.set_cons_zero, List.set_cons_succ]
        refine wpAnyH_take (i := 14) (v := .pointer (some ⟨rb, 3, none⟩)) rfl (by kernel_rfl) (by kernel_rfl) (by kernel_rfl) (fun _ _ _ h => h) (Or.inl ⟨by rfl, by intro w hw; go_simp⟩) hS0 ?_
        try simp only [Act.put, List.setIfInBounds_toArray, List.set_cons_zero, List.set_cons_succ]
        refine wpAnyH_ready (rs := [15]) (by kernel_rfl) (by simp) ?_
        refine AllReadyH.cons rfl (fun K' hK => ?_) AllReadyH.nil
        go_simp
        refine hK.out _ _ ?_ (fun hS0 => ?_)
        · exact KU.out _ _ KS
        try simp only [Act.put, List.setIfInBounds_toArray, List.set_cons_zero, List.set_cons_succ]
        refine wpAnyH_done (by kernel_rfl) ?_ _
        rw [← HTK.out] at R5
        have R5' : Hid (Rg (w5.setCell ⟨rb, 3, none⟩ (.slice ya (k + 1) yc)) rb (rb + 1) (.slice ya (k + 1) yc) b e ((zpt C L).take (k + 1))) := R5
        have F5' : Hid (Nw w1 (w5.setCell ⟨rb, 3, none⟩ (.slice ya (k + 1) yc))) := (HW.out.tr NQ.out).trans F5 (fun j hj q => by
          have h1 := HRB.out
          rcases q with q | q
          · omega
          · have := (HR.out.own.lt j q).1; omega)
        clear R5 F5 S5 cb5 fb5 lb5 hb5 KS t5 o5 o1 R1
        go_wp2_with fail
        exact ⟨⟨k + 1, _, by omega, by go_num, R5'.out, F5'.out⟩, by simp [intOf]; omega⟩
    · obtain rfl : k = n := by omega
      have hkn : ¬ (k : Int) < (k : Int) := by omega
      have hR' := hR
      rw [List.take_of_length_le (Nat.le_of_eq ZL.out)] at hR'
      have HRf : Hid (Rg wr rb (rb + 1) v b e (zpt C L)) := hR'
      have HWf : Hid (Nw w1 wr) := hW
      clear hR hR' hW
      go_wp2
      refine bodyPost_ret (v := .tuple #[.pointer (some ⟨rb, 0, none⟩), .nilIface]) (by simp [results, Tryd.results21]) rfl ?_
      exact ⟨rb, rfl, rb + 1, ⟨v, HRf.out⟩, by have := HRB.out; have := N1.out.size; omega, by omega, N1.out.tr HWf.out⟩
end Go.Proofs.YthbimomhbeoieaaDoor
