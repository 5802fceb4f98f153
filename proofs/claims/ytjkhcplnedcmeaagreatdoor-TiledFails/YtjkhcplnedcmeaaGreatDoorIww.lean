/- reader: a store in which the tiles of a log lie: the walk. -/
import Derived.Test.YtjkhcplnedcmeaaGreatDoorJgd
import Derived.Deep.RegionHeld3
import Derived.Deep.MidRow
import Derived.Test.YtjkhcplnedcmeaaGreatDoorItr
import Derived.Test.YtjkhcplnedcmeaaGreatDoorIk
import Derived.Test.YtjkhcplnedcmeaaGreatDoorLg1
namespace Go.Proofs.YtjkhcplnedcmeaaGreatDoor
open Go.RowKit
set_option linter.unusedVariables false
set_option linter.unusedSimpArgs false
theorem own_some {w : World} {base : Nat} {e : TypeId} {size : Nat} {v : Value} {n : Nat} {xs : List Value} (h : w.ownsRow base e size v n xs) (h0 : 0 < n) : ∃ g cap, v = .slice (some ⟨g, 0, none⟩) n cap ∧ n ≤ cap ∧ cap ≤ maxLen := by
  rcases h.2 with ⟨_, h1⟩ | ⟨g, cap, cur, hv, _, _, h1, h2, _⟩
  · omega
  · exact ⟨g, cap, hv, h1, h2⟩
theorem yields_load_aJ {P : Program} {ops : Array Oper} {S : World → Prop} {o : Oper} {a : Act} (hgd : o.guard = none) (x : Operand) (t : TypeId) (n : Nat) (ho : o.op = .load t x)
    (hagg : ∀ W : World, (isAgg t).run P W = .ok true W) (hsz : ∀ W : World, (sizeOf t).run P W = .ok n W) (g off : Nat) (hx : a.eval x = .pointer (some ⟨g, off, none⟩))
    (V : Array Value) (hV : V.size = n) (hg : ∀ w, S w → ∀ j, j < n → w.cell? ⟨g, off + j, none⟩ = V[j]?) : YieldsIf P ops S o (.agg V) a := by
  refine .inl ⟨by simp [Region.wanted, hgd], fun w hw => ?_⟩
  have hl : (loadCells ⟨g, off, none⟩ n).run P w = .ok V w := by
    have := run_loadCells_list (P := P) w ⟨g, off, none⟩ V.toList (fun j v hv => by
      have hj : j < n := by
        have := (List.getElem?_eq_some_iff.1 hv).1
        simpa [hV] using this
      rw [addO, hg w hw j hj]
      simpa using hv)
    simpa [hV] using this
  unfold execOp
  simp only [ho, hx, Instr.loadAt, sure, loadVar, Sem.run_bind, Sem.run_pure, hagg, hsz, hl, Result.andThen_ok, if_true]
theorem step_buildJ {P : Program} {ops : Array Oper} {o : Oper} {a : Act} {w : World} {K : Act → World → Prop} {Q : Exit → Act → World → Prop} {E : Prop} (hP : P = Tryz.prog) (hgd : o.guard = none) (x : Operand) (ho : o.op = .buildSlice 45 1 #[(0, x)]) (V : Array Value) (hx : a.eval x = .agg V) (hV : V.size = 32)
    (h : K (a.put o.dst (.slice (some ⟨w.heap.size, 0, none⟩) 1 1)) (w.alloc (.cells V 69))) : if Region.wanted o (yielded ops a.tmps) = true then Oper.wp P o a w K Q else E := by
  subst hP
  rw [if_pos (by simp [Region.wanted, hgd])]
  unfold Oper.wp execOp
  simp only [ho, Sem.run_bind, Sem.run_pure, Result.andThen_ok, List.map_toArray, List.map_cons, List.map_nil, hx, build1 V hV]
  exact h
end Go.Proofs.YtjkhcplnedcmeaaGreatDoor
namespace Go.Proofs.YtjkhcplnedcmeaaGreatDoor
open Go.RowKit
set_option linter.unusedVariables false
set_option linter.unusedSimpArgs false
theorem hst_32 (n : Nat) (l : List (Nat × Nat)) : ∀ x ∈ l.map (hst (ldS n)), x.length = 32 := fun x hx => by
  obtain ⟨s, _, rfl⟩ := List.mem_map.1 hx
  exact hst_len _ _
theorem hss_built {w : World} {g : Nat} {X : List UInt8} {t : TypeId} (h : w.heap[g]? = some (.cells (hbs X) t)) : Hss w (.slice (some ⟨g, 0, none⟩) 1 1) [X] :=
  ⟨_, _, rfl, fun k x hk => by
    have : k = 0 ∧ x = X := by
      cases k with
      | zero => simp at hk; exact ⟨rfl, hk.symm⟩
      | succ k => simp at hk
    obtain ⟨rfl, rfl⟩ := this
    exact ⟨g, 0, rfl, fun j _ => by rw [Nat.zero_mul, Nat.add_zero, Nat.zero_add]; exact cell_of h j⟩⟩
/-- What answers gives: the list's row, and the engine's, or its error. -/
def Bothf (s0 : RS) (n B K : Nat) (w w' : World) (eb lb base : Nat) (v : Value) (sz : Nat) (few : Bool) (x : Addr) (e : Ending) : Prop :=
  ∃ (fl : Bool) (s' : RS) (T : Nat) (va : Value) (vb : Option Addr) (cb : Nat) (X : List (List UInt8)), e = .returned (.tuple #[va, .slice vb X.length cb, erf fl x, .nilIface, .int .u64 (sz : Int)]) ∧ (∀ x ∈ X, x.length = 32) ∧ (fl = false → ∃ ad c, va = .slice ad X.length c ∧ Hss w' va X) ∧ Hss w' (.slice vb X.length cb) X ∧ X.length ≤ 1000 ∧ Outc s0 s' (ldH n) B K T w w' eb fl ∧ Lg w' lb base v (ldS n) ∧ T ≤ 400 ∧ (few = true → ∀ c, sz ≤ 2 ^ c → T ≤ 2 * (c + 1))
theorem aln_cov10 {s : Nat × Nat} (h : Aln s) (hs : s.2 ≤ 1000) : (cvr s).length ≤ 10 := by
  obtain ⟨h1, j, h2, h3⟩ := h
  by_cases hj : j ≤ 10
  · exact Nat.le_trans (cov_al j s.1 s.2 h2 h1 h3) (by omega)
  · exact Nat.le_trans (cov_al 10 s.1 s.2 (Nat.dvd_trans (Nat.pow_dvd_pow 2 (by omega)) h2) h1 (by have : (2 : Nat) ^ 10 = 1024 := (by decide); omega)) (by omega)
theorem bat_tls4 (n i f sz : Nat) (h0 : 0 < sz) (hif : i < f) (hf : f ≤ sz) (hs : sz ≤ 1000) : (tls n ((bat i f 0 sz).map cvr).flatten).length ≤ 400 := by
  have h1 := tls_len n ((bat i f 0 sz).map cvr).flatten
  have h2 := flat_len ((bat i f 0 sz).map cvr) 10 (fun cs hcs => by
    obtain ⟨s, hm, rfl⟩ := List.mem_map.1 hcs
    exact aln_cov10 (aln_bat i f sz h0 s hm) (by have := (bat_mem sz i f 0 sz (by omega) (by omega) s hm).2.2; omega))
  have h3 := bat_len 10 i f 0 sz (by have : (2 : Nat) ^ 10 = 1024 := (by decide); omega)
  rw [List.length_map] at h2
  omega
theorem hss_rowf {fl : Bool} {s' : RS} {w1 w2 : World} {base : Nat} {va : Value} {L : List (List UInt8)} (h : Rowf fl s' w1 base va L) (h32 : ∀ x ∈ L, x.length = 32) (n : Nw w1 w2) (hf : fl = false) : ∃ ad c, va = .slice ad L.length c ∧ Hss w2 va L := by
  rcases h with ⟨_, g, c, rfl, o, _⟩ | ⟨h, _⟩
  · exact ⟨_, _, rfl, (Hss.of h32 o).nw h32 n⟩
  · rw [hf] at h; cases h
theorem rowf_base {fl : Bool} {s' : RS} {w' : World} {b1 b0 : Nat} {va : Value} {L : List (List UInt8)} (h : Rowf fl s' w' b1 va L) (hb : b0 ≤ b1) : Rowf fl s' w' b0 va L := by
  rcases h with ⟨h1, g, c, h2, o, h3⟩ | h
  · exact .inl ⟨h1, g, c, h2, ownsRow_base o hb, h3⟩
  · exact .inr h
set_option maxRecDepth 100000 in
set_option maxHeartbeats 2000000 in
theorem ansf_path {s0 : RS} {n B K : Nat} {w : World} (h : s0.At (ldH n) B K w) {eb lb base : Nat} {v : Value} (he : Eng s0 w eb n) (hl : Lg w lb base v (ldS n)) (hlt : s0.tg lb = 9 ∧ ∀ q, v.ownBlock = some q → s0.tg q = 9) (hn : 1 ≤ n ∧ n ≤ 1000) {a : Nat → Addr} (hG : Gd B a w) (hT : TabAt w) (hK : K ≤ 900000)
    (kd : Int) (hk : bits BinOp.and IntKind.i64 kd 3 = 1) (x y z : Nat) (hx : x < 18446744073709551616) (hz : z < 18446744073709551616) :
    Calls Tryz.prog 17 #[.pointer (some ⟨eb, 0, none⟩), .pointer (some ⟨lb, 0, none⟩), .agg #[.int .i64 kd, .int .u64 (x : Int), .int .u64 (y : Int), .int .u64 (z : Int)], .int .u64 (n : Int)] w fun e w' =>
      ∃ sz, 1 ≤ sz ∧ sz ≤ n ∧ Bothf s0 n B K w w' eb lb base v sz true (a 6) e := by
  have QW : Hid (∀ (v lo hi r : Nat) V, r = lo + v % (hi - lo + 1) → lo ≤ hi → hi ≤ 1048576 → v < 18446744073709551616 → Calls Tryz.prog 60 #[.int .u64 (v : Int), .int .u64 (lo : Int), .int .u64 (hi : Int)] V fun e w' => e = .returned (.int .u64 (r : Int)) ∧ w' = V) := fun v lo hi r V e a b c => by rw [e]; exact within_any v lo hi a b c V
  obtain ⟨sz, hsz⟩ : ∃ s, s = 1 + z % (n - 1 + 1) := ⟨_, rfl⟩
  have hsb : 1 ≤ sz ∧ sz ≤ n := by
    have : z % (n - 1 + 1) < n - 1 + 1 := Nat.mod_lt _ (by omega)
    omega
  obtain ⟨i, hi⟩ : ∃ i, i = 0 + x % ((sz - 1) - 0 + 1) := ⟨_, rfl⟩
  have hib : 0 ≤ i ∧ i ≤ (sz - 1) := by
    have : x % ((sz - 1) - 0 + 1) < (sz - 1) - 0 + 1 := Nat.mod_lt _ (by omega)
    omega
  have hln : (ldH n).length = n := ldH_len n
  have hm : ∀ s ∈ pth i 0 sz, Aln s ∧ s.2 ≤ n := fun s hs => ⟨aln_pth i sz s hs, Nat.le_trans (pth_mem sz i 0 sz (by omega) s hs).2.2 hsb.2⟩
  have hrow := rows_hst n (by omega) (pth i 0 sz) hm
  have hll : (pth i 0 sz).length ≤ 1000 := by
    have p63 : (2 : Nat) ^ 63 = 9223372036854775808 := by decide
    exact Nat.le_trans (pth_len 63 i 0 sz (by omega)) (by omega)
  have QE : Hid (∀ V, Nw w V → Calls Tryz.prog 47 #[.pointer (some ⟨eb, 0, none⟩), .int .u64 (i : Int), .int .u64 (sz : Int)] V fun e w' => ∃ fl s' T va, e = .returned (.tuple #[va, erf fl (a 6)]) ∧ Rowf fl s' w' V.heap.size va ((pth i 0 sz).map (hst (ldS n))) ∧ T ≤ (tls n ((pth i 0 sz).map cvr).flatten).length ∧ Outc s0 s' (ldH n) B K T V w' eb fl) := fun V nV => by
    have := fpath_any (h.nw nV) (by rw [hln]; exact he.nw nV) (by rw [hln]; omega) i sz (by omega) (by rw [hln]; exact hsb.2) (hG.nw nV) (hT.nw nV) hK
    rw [hrow, hln] at this
    exact this
  have QN : Hid (∀ V, Lg V lb base v (ldS n) → Gd B a V → Calls Tryz.prog 61 #[.pointer (some ⟨lb, 0, none⟩), .int .u64 (i : Int), .int .u64 (sz : Int)] V fun e w' => Rowed V w' (ldS n) (pth i 0 sz) e) := fun V lV gV => Path_yes lV i sz (by omega) (by rw [ldS_len]; exact hsb.2) gV.l gV.s
  have HLG : Hid (∀ V V', Nw w V → Fr s0.Ff V V' → Lg V' lb base v (ldS n)) := fun V V' nV fV => (hl.nw nV).fr fV (fun q => by have := hlt.1; unfold RS.Ff at q; omega) (fun g hg q => by have := hlt.2 g hg; unfold RS.Ff at q; omega)
  have HGG : Hid (∀ V V', Nw w V → Fr s0.Ff V V' → Gd B a V') := fun V V' nV fV => (hG.nw nV).fr fV h.bt
  have hkn : 1 ≤ n ∧ n ≤ 1000 := hn
  obtain ⟨m, hmm⟩ : ∃ m, m = (pth i 0 sz).length := ⟨_, rfl⟩
  have HM : Hid (m = (pth i 0 sz).length ∧ m ≤ 1000) := ⟨hmm, by omega⟩
  have H32 := show Hid _ from hst_32 n (pth i 0 sz)
  have HTB : Hid (true = true → ∀ c, sz ≤ 2 ^ c → (tls n ((pth i 0 sz).map cvr).flatten).length ≤ 2 * (c + 1)) := fun hf c hc => Nat.le_trans (tls_len _ _) (Nat.le_trans (pth_tcn c i 0 sz (Nat.dvd_zero _) (by omega)) (by omega))
  have HNT : Hid (∀ k, w.heap.size ≤ k → s0.tg k = 9) := h.nt
  clear h he hl hlt hG hT hK hm hrow hll hmm hln
  go_enter Tryz.func17, Tryz.ntmps17
  go_wp2_with fail
  refine (QW.out z 1 n sz _ hsz hn.1 (by omega) hz).mono ?_
  rintro e w1 ⟨rfl, rfl⟩
  have hs1 : (sz : Int) - 1 = ((sz - 1 : Nat) : Int) := by omega
  have hsl : sz ≤ 1000 := by omega
  have hi2 : Hid (i = 0 + x % ((sz - 1) - 0 + 1)) := hi
  clear hsz hi
  go_wp2_with fail
  refine (QW.out x 0 (sz - 1) i _ hi2.out (by omega) (by omega) hx).mono ?_
  rintro e w2 ⟨rfl, rfl⟩
  go_wp2_with fail
  refine (QE.out _ (by repeat first | with_reducible exact nwr w | with_reducible refine Fr.alloc ?_ _ | with_reducible refine Fr.drew ?_ | (with_reducible refine Fr.setCell ?_ _ _ (fun h => ?_); rotate_left; focus (simp only at h; omega)))).mono ?_
  rintro e w3 ⟨fl, s3, T, va, rfl, r3, hT3, an3⟩
  have nA : Nw w (w.alloc (.cells #[.int .i64 kd, .int .u64 (x : Int), .int .u64 (y : Int), .int .u64 (z : Int)] 49)) := nwa w _
  have A3 : Hid (Rowf fl s3 w3 w.heap.size va ((pth i 0 sz).map (hst (ldS n))) ∧ T ≤ (tls n ((pth i 0 sz).map cvr).flatten).length ∧ Outc s0 s3 (ldH n) B K T w w3 eb fl) := ⟨rowf_base r3 nA.size, hT3, an3.from nA⟩
  have LG3 : Hid (Lg w3 lb base v (ldS n)) := HLG.out _ w3 nA an3.fr
  have GD3 : Hid (Gd B a w3) := HGG.out _ w3 nA an3.fr
  have BX : Hid (w3.heap[w.heap.size]? = some (.cells #[.int .i64 kd, .int .u64 (x : Int), .int .u64 (y : Int), .int .u64 (z : Int)] 49)) := (an3.fr.block _ (by simp) (fun q => by have := HNT.out w.heap.size (Nat.le_refl _); unfold RS.Ff at q; omega)).trans (heap_new _ _)
  have x0 := (cell_of BX.out 0).trans rfl
  have x1 := (cell_of BX.out 1).trans rfl
  have lx := heap_lt BX.out
  clear r3 hT3 an3 nA
  go_wp2_with fail
  refine (QW.out x 0 (sz - 1) i _ hi2.out (by omega) (by omega) hx).mono ?_
  rintro e w4 ⟨rfl, rfl⟩
  go_wp2_with fail
  refine (QN.out _ LG3.out GD3.out).mono ?_
  rintro e w5 ⟨vb, rfl, o5, n5⟩
  obtain ⟨ab, cb, rfl⟩ := ownsRow_form o5
  have O5 : Hid (w5.ownsRow w4.heap.size 69 32 (.slice ab (pth i 0 sz).length cb) (pth i 0 sz).length (hsc ((pth i 0 sz).map (hst (ldS n)))) ∧ Nw w4 w5) := ⟨o5, n5⟩
  rw [← HM.out.1]
  clear o5 n5 x0 x1 lx
  go_wp2
  obtain ⟨o5, n5⟩ := O5.out
  have hX : ((pth i 0 sz).map (hst (ldS n))).length = m := by rw [List.length_map]; exact HM.out.1.symm
  refine bodyPost_ret (v := .tuple #[va, .slice ab m cb, erf fl (a 6), .nilIface, .int .u64 (sz : Int)]) (by simp [results, Tryz.results17]) rfl ⟨sz, hsb.1, hsb.2, fl, s3, T, va, ab, cb, (pth i 0 sz).map (hst (ldS n)), by rw [hX], H32.out, fun hf => hss_rowf A3.out.1 H32.out n5 hf, ?_, by rw [hX]; exact HM.out.2, A3.out.2.2.nw n5, LG3.out.nw n5, Nat.le_trans A3.out.2.1 (Nat.le_trans (HTB.out trivial 10 (by have : (2 : Nat) ^ 10 = 1024 := (by decide); omega)) (by omega)), fun hf c hc => Nat.le_trans A3.out.2.1 (HTB.out trivial c hc)⟩
  rw [hX]; exact Hss.of H32.out (by rw [hX, HM.out.1]; exact o5)
set_option maxRecDepth 100000 in
set_option maxHeartbeats 2000000 in
theorem ansf_proof {s0 : RS} {n B K : Nat} {w : World} (h : s0.At (ldH n) B K w) {eb lb base : Nat} {v : Value} (he : Eng s0 w eb n) (hl : Lg w lb base v (ldS n)) (hlt : s0.tg lb = 9 ∧ ∀ q, v.ownBlock = some q → s0.tg q = 9) (hn : 1 ≤ n ∧ n ≤ 1000) {a : Nat → Addr} (hG : Gd B a w) (hT : TabAt w) (hK : K ≤ 900000)
    (kd : Int) (hk : bits BinOp.and IntKind.i64 kd 3 = 2) (x y z : Nat) (hx : x < 18446744073709551616) (hz : z < 18446744073709551616) :
    Calls Tryz.prog 17 #[.pointer (some ⟨eb, 0, none⟩), .pointer (some ⟨lb, 0, none⟩), .agg #[.int .i64 kd, .int .u64 (x : Int), .int .u64 (y : Int), .int .u64 (z : Int)], .int .u64 (n : Int)] w fun e w' =>
      ∃ sz, 1 ≤ sz ∧ sz ≤ n ∧ Bothf s0 n B K w w' eb lb base v sz true (a 6) e := by
  have QW : Hid (∀ (v lo hi r : Nat) V, r = lo + v % (hi - lo + 1) → lo ≤ hi → hi ≤ 1048576 → v < 18446744073709551616 → Calls Tryz.prog 60 #[.int .u64 (v : Int), .int .u64 (lo : Int), .int .u64 (hi : Int)] V fun e w' => e = .returned (.int .u64 (r : Int)) ∧ w' = V) := fun v lo hi r V e a b c => by rw [e]; exact within_any v lo hi a b c V
  obtain ⟨sz, hsz⟩ : ∃ s, s = 1 + z % (n - 1 + 1) := ⟨_, rfl⟩
  have hsb : 1 ≤ sz ∧ sz ≤ n := by
    have : z % (n - 1 + 1) < n - 1 + 1 := Nat.mod_lt _ (by omega)
    omega
  obtain ⟨i, hi⟩ : ∃ i, i = 1 + x % (sz - 1 + 1) := ⟨_, rfl⟩
  have hib : 1 ≤ i ∧ i ≤ sz := by
    have : x % (sz - 1 + 1) < sz - 1 + 1 := Nat.mod_lt _ (by omega)
    omega
  have hln : (ldH n).length = n := ldH_len n
  have hm : ∀ s ∈ prf i 0 sz true, Aln s ∧ s.2 ≤ n := fun s hs => ⟨aln_prf i sz (by omega) (by omega) s hs, Nat.le_trans (prf_mem sz i 0 sz true (by omega) (by omega) (by omega) s hs).2.2 hsb.2⟩
  have hrow := rows_hst n (by omega) (prf i 0 sz true) hm
  have hll : (prf i 0 sz true).length ≤ 1000 := by
    have p63 : (2 : Nat) ^ 63 = 9223372036854775808 := by decide
    exact Nat.le_trans (prf_len 63 i 0 sz true (by omega) (by omega) (by omega)) (by omega)
  have QE : Hid (∀ V, Nw w V → Calls Tryz.prog 62 #[.pointer (some ⟨eb, 0, none⟩), .int .u64 (i : Int), .int .u64 (sz : Int)] V fun e w' => ∃ fl s' T va, e = .returned (.tuple #[va, erf fl (a 6)]) ∧ Rowf fl s' w' V.heap.size va ((prf i 0 sz true).map (hst (ldS n))) ∧ T ≤ (tls n ((prf i 0 sz true).map cvr).flatten).length ∧ Outc s0 s' (ldH n) B K T V w' eb fl) := fun V nV => by
    have := fproof_any (h.nw nV) (by rw [hln]; exact he.nw nV) (by rw [hln]; omega) i sz (by omega) (by omega) (by rw [hln]; exact hsb.2) (hG.nw nV) (hT.nw nV) hK
    rw [hrow, hln] at this
    exact this
  have QN : Hid (∀ V, Lg V lb base v (ldS n) → Gd B a V → Calls Tryz.prog 63 #[.pointer (some ⟨lb, 0, none⟩), .int .u64 (i : Int), .int .u64 (sz : Int)] V fun e w' => Rowed V w' (ldS n) (prf i 0 sz true) e) := fun V lV gV => Proof_yes lV i sz (by omega) (by rw [ldS_len]; exact hsb.2) gV.l gV.s
  have HLG : Hid (∀ V V', Nw w V → Fr s0.Ff V V' → Lg V' lb base v (ldS n)) := fun V V' nV fV => (hl.nw nV).fr fV (fun q => by have := hlt.1; unfold RS.Ff at q; omega) (fun g hg q => by have := hlt.2 g hg; unfold RS.Ff at q; omega)
  have HGG : Hid (∀ V V', Nw w V → Fr s0.Ff V V' → Gd B a V') := fun V V' nV fV => (hG.nw nV).fr fV h.bt
  have hkn : 1 ≤ n ∧ n ≤ 1000 := hn
  obtain ⟨m, hmm⟩ : ∃ m, m = (prf i 0 sz true).length := ⟨_, rfl⟩
  have HM : Hid (m = (prf i 0 sz true).length ∧ m ≤ 1000) := ⟨hmm, by omega⟩
  have H32 := show Hid _ from hst_32 n (prf i 0 sz true)
  have HTB : Hid (true = true → ∀ c, sz ≤ 2 ^ c → (tls n ((prf i 0 sz true).map cvr).flatten).length ≤ 2 * (c + 1)) := fun hf c hc => Nat.le_trans (tls_len _ _) (Nat.le_trans (prf_tcn c i 0 sz true (Nat.dvd_zero _) (by omega) (by omega) (by omega)) (by omega))
  have HNT : Hid (∀ k, w.heap.size ≤ k → s0.tg k = 9) := h.nt
  clear h he hl hlt hG hT hK hm hrow hll hmm hln
  go_enter Tryz.func17, Tryz.ntmps17
  go_wp2_with fail
  refine (QW.out z 1 n sz _ hsz hn.1 (by omega) hz).mono ?_
  rintro e w1 ⟨rfl, rfl⟩
  have hs1 : (1 : Int) ≤ (sz : Int) := by omega
  have hsl : sz ≤ 1000 := by omega
  have hi2 : Hid (i = 1 + x % (sz - 1 + 1)) := hi
  clear hsz hi
  go_wp2_with fail
  refine (QW.out x 1 sz i _ hi2.out (by omega) (by omega) hx).mono ?_
  rintro e w2 ⟨rfl, rfl⟩
  go_wp2_with fail
  refine (QE.out _ (by repeat first | with_reducible exact nwr w | with_reducible refine Fr.alloc ?_ _ | with_reducible refine Fr.drew ?_ | (with_reducible refine Fr.setCell ?_ _ _ (fun h => ?_); rotate_left; focus (simp only at h; omega)))).mono ?_
  rintro e w3 ⟨fl, s3, T, va, rfl, r3, hT3, an3⟩
  have nA : Nw w (w.alloc (.cells #[.int .i64 kd, .int .u64 (x : Int), .int .u64 (y : Int), .int .u64 (z : Int)] 49)) := nwa w _
  have A3 : Hid (Rowf fl s3 w3 w.heap.size va ((prf i 0 sz true).map (hst (ldS n))) ∧ T ≤ (tls n ((prf i 0 sz true).map cvr).flatten).length ∧ Outc s0 s3 (ldH n) B K T w w3 eb fl) := ⟨rowf_base r3 nA.size, hT3, an3.from nA⟩
  have LG3 : Hid (Lg w3 lb base v (ldS n)) := HLG.out _ w3 nA an3.fr
  have GD3 : Hid (Gd B a w3) := HGG.out _ w3 nA an3.fr
  have BX : Hid (w3.heap[w.heap.size]? = some (.cells #[.int .i64 kd, .int .u64 (x : Int), .int .u64 (y : Int), .int .u64 (z : Int)] 49)) := (an3.fr.block _ (by simp) (fun q => by have := HNT.out w.heap.size (Nat.le_refl _); unfold RS.Ff at q; omega)).trans (heap_new _ _)
  have x0 := (cell_of BX.out 0).trans rfl
  have x1 := (cell_of BX.out 1).trans rfl
  have lx := heap_lt BX.out
  clear r3 hT3 an3 nA
  go_wp2_with fail
  refine (QW.out x 1 sz i _ hi2.out (by omega) (by omega) hx).mono ?_
  rintro e w4 ⟨rfl, rfl⟩
  go_wp2_with fail
  refine (QN.out _ LG3.out GD3.out).mono ?_
  rintro e w5 ⟨vb, rfl, o5, n5⟩
  obtain ⟨ab, cb, rfl⟩ := ownsRow_form o5
  have O5 : Hid (w5.ownsRow w4.heap.size 69 32 (.slice ab (prf i 0 sz true).length cb) (prf i 0 sz true).length (hsc ((prf i 0 sz true).map (hst (ldS n)))) ∧ Nw w4 w5) := ⟨o5, n5⟩
  rw [← HM.out.1]
  clear o5 n5 x0 x1 lx
  go_wp2
  obtain ⟨o5, n5⟩ := O5.out
  have hX : ((prf i 0 sz true).map (hst (ldS n))).length = m := by rw [List.length_map]; exact HM.out.1.symm
  refine bodyPost_ret (v := .tuple #[va, .slice ab m cb, erf fl (a 6), .nilIface, .int .u64 (sz : Int)]) (by simp [results, Tryz.results17]) rfl ⟨sz, hsb.1, hsb.2, fl, s3, T, va, ab, cb, (prf i 0 sz true).map (hst (ldS n)), by rw [hX], H32.out, fun hf => hss_rowf A3.out.1 H32.out n5 hf, ?_, by rw [hX]; exact HM.out.2, A3.out.2.2.nw n5, LG3.out.nw n5, Nat.le_trans A3.out.2.1 (Nat.le_trans (HTB.out trivial 10 (by have : (2 : Nat) ^ 10 = 1024 := (by decide); omega)) (by omega)), fun hf c hc => Nat.le_trans A3.out.2.1 (HTB.out trivial c hc)⟩
  rw [hX]; exact Hss.of H32.out (by rw [hX, HM.out.1]; exact o5)
set_option maxRecDepth 100000 in
set_option maxHeartbeats 2000000 in
theorem ansf_batch {s0 : RS} {n B K : Nat} {w : World} (h : s0.At (ldH n) B K w) {eb lb base : Nat} {v : Value} (he : Eng s0 w eb n) (hl : Lg w lb base v (ldS n)) (hlt : s0.tg lb = 9 ∧ ∀ q, v.ownBlock = some q → s0.tg q = 9) (hn : 1 ≤ n ∧ n ≤ 1000) {a : Nat → Addr} (hG : Gd B a w) (hT : TabAt w) (hK : K ≤ 900000)
    (kd : Int) (hk : bits BinOp.and IntKind.i64 kd 3 ≠ 0 ∧ bits BinOp.and IntKind.i64 kd 3 ≠ 1 ∧ bits BinOp.and IntKind.i64 kd 3 ≠ 2) (x y z : Nat) (hx : x < 18446744073709551616) (hy : y < 18446744073709551616) (hz : z < 18446744073709551616) :
    Calls Tryz.prog 17 #[.pointer (some ⟨eb, 0, none⟩), .pointer (some ⟨lb, 0, none⟩), .agg #[.int .i64 kd, .int .u64 (x : Int), .int .u64 (y : Int), .int .u64 (z : Int)], .int .u64 (n : Int)] w fun e w' =>
      ∃ sz, 1 ≤ sz ∧ sz ≤ n ∧ Bothf s0 n B K w w' eb lb base v sz false (a 6) e := by
  have QW : Hid (∀ (v lo hi r : Nat) V, r = lo + v % (hi - lo + 1) → lo ≤ hi → hi ≤ 1048576 → v < 18446744073709551616 → Calls Tryz.prog 60 #[.int .u64 (v : Int), .int .u64 (lo : Int), .int .u64 (hi : Int)] V fun e w' => e = .returned (.int .u64 (r : Int)) ∧ w' = V) := fun v lo hi r V e a b c => by rw [e]; exact within_any v lo hi a b c V
  obtain ⟨sz, hsz⟩ : ∃ s, s = 1 + z % (n - 1 + 1) := ⟨_, rfl⟩
  have hsb : 1 ≤ sz ∧ sz ≤ n := by
    have : z % (n - 1 + 1) < n - 1 + 1 := Nat.mod_lt _ (by omega)
    omega
  obtain ⟨i, hi⟩ : ∃ i, i = 0 + x % ((sz - 1) - 0 + 1) := ⟨_, rfl⟩
  have hib : 0 ≤ i ∧ i ≤ (sz - 1) := by
    have : x % ((sz - 1) - 0 + 1) < (sz - 1) - 0 + 1 := Nat.mod_lt _ (by omega)
    omega
  obtain ⟨f, hf⟩ : ∃ f, f = (i + 1) + y % (sz - (i + 1) + 1) := ⟨_, rfl⟩
  have hfb : i + 1 ≤ f ∧ f ≤ sz := by
    have : y % (sz - (i + 1) + 1) < sz - (i + 1) + 1 := Nat.mod_lt _ (by omega)
    omega
  have hln : (ldH n).length = n := ldH_len n
  have hm : ∀ s ∈ bat i f 0 sz, Aln s ∧ s.2 ≤ n := fun s hs => ⟨aln_bat i f sz (by omega) s hs, Nat.le_trans (bat_mem sz i f 0 sz (by omega) (by omega) s hs).2.2 hsb.2⟩
  have hrow := rows_hst n (by omega) (bat i f 0 sz) hm
  have hll : (bat i f 0 sz).length ≤ 1000 := by
    have p63 : (2 : Nat) ^ 63 = 9223372036854775808 := by decide
    exact Nat.le_trans (bat_len 63 i f 0 sz (by omega)) (by omega)
  have QE : Hid (∀ V, Nw w V → Calls Tryz.prog 64 #[.pointer (some ⟨eb, 0, none⟩), .int .u64 (i : Int), .int .u64 (f : Int), .int .u64 (sz : Int)] V fun e w' => ∃ fl s' T va, e = .returned (.tuple #[va, erf fl (a 6)]) ∧ Rowf fl s' w' V.heap.size va ((bat i f 0 sz).map (hst (ldS n))) ∧ T ≤ (tls n ((bat i f 0 sz).map cvr).flatten).length ∧ Outc s0 s' (ldH n) B K T V w' eb fl) := fun V nV => by
    have := fbatch_any (h.nw nV) (by rw [hln]; exact he.nw nV) (by rw [hln]; omega) i f sz (by omega) (by omega) (by rw [hln]; exact hsb.2) (hG.nw nV) (hT.nw nV) hK
    rw [hrow, hln] at this
    exact this
  have QN : Hid (∀ V, Lg V lb base v (ldS n) → Gd B a V → Calls Tryz.prog 65 #[.pointer (some ⟨lb, 0, none⟩), .int .u64 (i : Int), .int .u64 (f : Int), .int .u64 (sz : Int)] V fun e w' => Rowed V w' (ldS n) (bat i f 0 sz) e) := fun V lV gV => Batch_yes lV i f sz (by omega) (by rw [ldS_len]; exact hsb.2) gV.l gV.s
  have HLG : Hid (∀ V V', Nw w V → Fr s0.Ff V V' → Lg V' lb base v (ldS n)) := fun V V' nV fV => (hl.nw nV).fr fV (fun q => by have := hlt.1; unfold RS.Ff at q; omega) (fun g hg q => by have := hlt.2 g hg; unfold RS.Ff at q; omega)
  have HGG : Hid (∀ V V', Nw w V → Fr s0.Ff V V' → Gd B a V') := fun V V' nV fV => (hG.nw nV).fr fV h.bt
  have hkn : 1 ≤ n ∧ n ≤ 1000 := hn
  obtain ⟨m, hmm⟩ : ∃ m, m = (bat i f 0 sz).length := ⟨_, rfl⟩
  have HM : Hid (m = (bat i f 0 sz).length ∧ m ≤ 1000) := ⟨hmm, by omega⟩
  have H32 := show Hid _ from hst_32 n (bat i f 0 sz)
  have HTB : Hid ((tls n ((bat i f 0 sz).map cvr).flatten).length ≤ 400) := bat_tls4 n i f sz (by omega) (by omega) (by omega) (by omega)
  have HNT : Hid (∀ k, w.heap.size ≤ k → s0.tg k = 9) := h.nt
  clear h he hl hlt hG hT hK hm hrow hll hmm hln
  go_enter Tryz.func17, Tryz.ntmps17
  go_wp2_with fail
  refine (QW.out z 1 n sz _ hsz hn.1 (by omega) hz).mono ?_
  rintro e w1 ⟨rfl, rfl⟩
  have hs1 : (sz : Int) - 1 = ((sz - 1 : Nat) : Int) := by omega
  have hsl : sz ≤ 1000 := by omega
  have hi2 : Hid (i = 0 + x % ((sz - 1) - 0 + 1)) := hi
  have hf2 : Hid (f = (i + 1) + y % (sz - (i + 1) + 1)) := hf
  have hk0 : (bits BinOp.and IntKind.i64 kd 3 == 0) = false := by simpa using hk.1
  have hk1 : (bits BinOp.and IntKind.i64 kd 3 == 1) = false := by simpa using hk.2.1
  have hk2 : (bits BinOp.and IntKind.i64 kd 3 == 2) = false := by simpa using hk.2.2
  obtain ⟨d, hd⟩ : ∃ d, d = i + 1 := ⟨_, rfl⟩
  have hdI : (i : Int) + 1 = (d : Int) := by omega
  have hdb : d ≤ sz := by omega
  rw [← hd] at hf2
  clear hsz hi hf hd
  go_wp2_with fail
  refine (QW.out x 0 (sz - 1) i _ hi2.out (by omega) (by omega) hx).mono ?_
  rintro e w2 ⟨rfl, rfl⟩
  go_wp2_with fail
  refine (QW.out y d sz f _ hf2.out (by omega) (by omega) hy).mono ?_
  rintro e w2 ⟨rfl, rfl⟩
  go_wp2_with fail
  refine (QE.out _ (by repeat first | with_reducible exact nwr w | with_reducible refine Fr.alloc ?_ _ | with_reducible refine Fr.drew ?_ | (with_reducible refine Fr.setCell ?_ _ _ (fun h => ?_); rotate_left; focus (simp only at h; omega)))).mono ?_
  rintro e w3 ⟨fl, s3, T, va, rfl, r3, hT3, an3⟩
  have nA : Nw w (w.alloc (.cells #[.int .i64 kd, .int .u64 (x : Int), .int .u64 (y : Int), .int .u64 (z : Int)] 49)) := nwa w _
  have A3 : Hid (Rowf fl s3 w3 w.heap.size va ((bat i f 0 sz).map (hst (ldS n))) ∧ T ≤ (tls n ((bat i f 0 sz).map cvr).flatten).length ∧ Outc s0 s3 (ldH n) B K T w w3 eb fl) := ⟨rowf_base r3 nA.size, hT3, an3.from nA⟩
  have LG3 : Hid (Lg w3 lb base v (ldS n)) := HLG.out _ w3 nA an3.fr
  have GD3 : Hid (Gd B a w3) := HGG.out _ w3 nA an3.fr
  have BX : Hid (w3.heap[w.heap.size]? = some (.cells #[.int .i64 kd, .int .u64 (x : Int), .int .u64 (y : Int), .int .u64 (z : Int)] 49)) := (an3.fr.block _ (by simp) (fun q => by have := HNT.out w.heap.size (Nat.le_refl _); unfold RS.Ff at q; omega)).trans (heap_new _ _)
  have x0 := (cell_of BX.out 0).trans rfl
  have x1 := (cell_of BX.out 1).trans rfl
  have lx := heap_lt BX.out
  clear r3 hT3 an3 nA
  go_wp2_with fail
  refine (QN.out _ LG3.out GD3.out).mono ?_
  rintro e w5 ⟨vb, rfl, o5, n5⟩
  obtain ⟨ab, cb, rfl⟩ := ownsRow_form o5
  have O5 : Hid (w5.ownsRow w3.heap.size 69 32 (.slice ab (bat i f 0 sz).length cb) (bat i f 0 sz).length (hsc ((bat i f 0 sz).map (hst (ldS n)))) ∧ Nw w3 w5) := ⟨o5, n5⟩
  rw [← HM.out.1]
  clear o5 n5 x0 x1 lx
  go_wp2
  obtain ⟨o5, n5⟩ := O5.out
  have hX : ((bat i f 0 sz).map (hst (ldS n))).length = m := by rw [List.length_map]; exact HM.out.1.symm
  refine bodyPost_ret (v := .tuple #[va, .slice ab m cb, erf fl (a 6), .nilIface, .int .u64 (sz : Int)]) (by simp [results, Tryz.results17]) rfl ⟨sz, hsb.1, hsb.2, fl, s3, T, va, ab, cb, (bat i f 0 sz).map (hst (ldS n)), by rw [hX], H32.out, fun hf => hss_rowf A3.out.1 H32.out n5 hf, ?_, by rw [hX]; exact HM.out.2, A3.out.2.2.nw n5, LG3.out.nw n5, Nat.le_trans A3.out.2.1 HTB.out, fun h => by cases h⟩
  rw [hX]; exact Hss.of H32.out (by rw [hX, HM.out.1]; exact o5)
set_option maxRecDepth 100000 in
set_option maxHeartbeats 2000000 in
theorem ansf_root {s0 : RS} {n B K : Nat} {w : World} (h : s0.At (ldH n) B K w) {eb lb base : Nat} {v : Value} (he : Eng s0 w eb n) (hl : Lg w lb base v (ldS n)) (hlt : s0.tg lb = 9 ∧ ∀ q, v.ownBlock = some q → s0.tg q = 9) (hn : 1 ≤ n ∧ n ≤ 1000) {a : Nat → Addr} (hG : Gd B a w) (hT : TabAt w) (hK : K ≤ 900000)
    (kd : Int) (hk : bits BinOp.and IntKind.i64 kd 3 = 0) (x y z : Nat) (hx : x < 18446744073709551616) (hz : z < 18446744073709551616) :
    Calls Tryz.prog 17 #[.pointer (some ⟨eb, 0, none⟩), .pointer (some ⟨lb, 0, none⟩), .agg #[.int .i64 kd, .int .u64 (x : Int), .int .u64 (y : Int), .int .u64 (z : Int)], .int .u64 (n : Int)] w fun e w' =>
      ∃ sz, 1 ≤ sz ∧ sz ≤ n ∧ Bothf s0 n B K w w' eb lb base v sz true (a 6) e := by
  have QW : Hid (∀ (v lo hi r : Nat) V, r = lo + v % (hi - lo + 1) → lo ≤ hi → hi ≤ 1048576 → v < 18446744073709551616 → Calls Tryz.prog 60 #[.int .u64 (v : Int), .int .u64 (lo : Int), .int .u64 (hi : Int)] V fun e w' => e = .returned (.int .u64 (r : Int)) ∧ w' = V) := fun v lo hi r V e a b c => by rw [e]; exact within_any v lo hi a b c V
  obtain ⟨sz, hsz⟩ : ∃ s, s = 1 + z % (n - 1 + 1) := ⟨_, rfl⟩
  have hsb : 1 ≤ sz ∧ sz ≤ n := by
    have : z % (n - 1 + 1) < n - 1 + 1 := Nat.mod_lt _ (by omega)
    omega
  have hln : (ldH n).length = n := ldH_len n
  have hrow : phL (ldH n) (cov 0 sz) = mth (sbl (ldS n) 0 sz) := phL_hst n (by omega) (0, sz) (aln_root (by omega)) hsb.2
  have h32 : (mth (sbl (ldS n) 0 sz)).length = 32 := mth_len _
  have QE : Hid (∀ V, Nw w V → Calls Tryz.prog 45 #[.pointer (some ⟨eb, 0, none⟩), .int .u64 (sz : Int)] V fun e w' => ∃ fl s' T, e = .returned (.tuple #[.agg (hbs (if fl then zh else mth (sbl (ldS n) 0 sz))), erf fl (a 6)]) ∧ T ≤ (tls n (cov 0 sz)).length ∧ Outc s0 s' (ldH n) B K T V w' eb fl) := fun V nV => by
    have := froot_any (h.nw nV) (by rw [hln]; exact he.nw nV) (by rw [hln]; omega) sz (by rw [hln]; exact hsb.2) (hG.nw nV) (hT.nw nV) hK
    rw [hrow, hln] at this
    exact this
  have QN : Hid (∀ V, Lg V lb base v (ldS n) → Gd B a V → Calls Tryz.prog 46 #[.pointer (some ⟨lb, 0, none⟩), .int .u64 (sz : Int)] V fun e w' => e = .returned (.tuple #[.agg (hbs (mth (sbl (ldS n) 0 sz))), .nilIface]) ∧ Nw V w') := fun V lV gV => by
    have := Root_any lV sz (by omega) gV.l gV.s
    unfold treeA at this
    rw [if_pos ⟨by omega, by rw [ldS_len]; exact hsb.2⟩] at this
    exact this
  have HLG : Hid (∀ V V', Nw w V → Fr s0.Ff V V' → Lg V' lb base v (ldS n)) := fun V V' nV fV => (hl.nw nV).fr fV (fun q => by have := hlt.1; unfold RS.Ff at q; omega) (fun g hg q => by have := hlt.2 g hg; unfold RS.Ff at q; omega)
  have HGG : Hid (∀ V V', Nw w V → Fr s0.Ff V V' → Gd B a V') := fun V V' nV fV => (hG.nw nV).fr fV h.bt
  have hkn : 1 ≤ n ∧ n ≤ 1000 := hn
  have HTB : Hid (true = true → ∀ c, sz ≤ 2 ^ c → (tls n (cov 0 sz)).length ≤ 2 * (c + 1)) := fun hf c hc => Nat.le_trans (tls_len _ _) (Nat.le_trans (cov_al c 0 sz (Nat.dvd_zero _) (by omega) (by omega)) (by omega))
  obtain ⟨X, hX⟩ : ∃ X, X = mth (sbl (ldS n) 0 sz) := ⟨_, rfl⟩
  rw [← hX] at QE QN h32
  have hXs : (hbs X).size = 32 := by rw [hbs_size, h32]
  have HX32 : Hid (∀ x ∈ [X], x.length = 32) := fun x hx => by simp at hx; rw [hx]; exact h32
  have HNT : Hid (∀ k, w.heap.size ≤ k → s0.tg k = 9) := h.nt
  clear h he hl hlt hG hT hK hrow hln hX h32
  go_enter Tryz.func17, Tryz.ntmps17
  go_wp2_with fail
  refine (QW.out z 1 n sz _ hsz hn.1 (by omega) hz).mono ?_
  rintro e w1 ⟨rfl, rfl⟩
  have hsl : sz ≤ 1000 := by omega
  have hk0 : (bits BinOp.and IntKind.i64 kd 3 == 0) = true := by rw [hk]; rfl
  clear hsz
  go_wp2_with fail
  refine (QE.out _ (by repeat first | with_reducible exact nwr w | with_reducible refine Fr.alloc ?_ _ | with_reducible refine Fr.drew ?_ | (with_reducible refine Fr.setCell ?_ _ _ (fun h => ?_); rotate_left; focus (simp only at h; omega)))).mono ?_
  rintro e w3 ⟨fl, s3, T, rfl, hT3, an3⟩
  have nA : Nw w (w.alloc (.cells #[.int .i64 kd, .int .u64 (x : Int), .int .u64 (y : Int), .int .u64 (z : Int)] 49)) := nwa w _
  have A3 : Hid (T ≤ (tls n (cov 0 sz)).length ∧ Outc s0 s3 (ldH n) B K T w w3 eb fl) := ⟨hT3, an3.from nA⟩
  have LG3 : Hid (Lg w3 lb base v (ldS n)) := HLG.out _ w3 nA an3.fr
  have GD3 : Hid (Gd B a w3) := HGG.out _ w3 nA an3.fr
  clear an3 nA hT3
  obtain ⟨Y, hY⟩ : ∃ Y, Y = (if fl then zh else X) := ⟨_, rfl⟩
  have HY : Hid (Y.length = 32 ∧ (fl = false → Y = X)) := ⟨by rw [hY]; cases fl <;> simp [HX32.out X (by simp)] <;> rfl, fun h => by rw [hY, h]; rfl⟩
  rw [← hY]
  have hYs : (hbs Y).size = 32 := by rw [hbs_size, HY.out.1]
  clear hY
  go_wp2_with (refine wp_store_agg rfl (.tmp 13) (.tmp 59) 69 32 rfl Tryz.sizeOf69 w3.heap.size 0 rfl _ 69 (heap_new _ _) (hbs Y) rfl hYs (hbs_one _) (by decide) (hbs Y) (by simp) ?_; intro w4 j4 f4 zz; clear zz; have N4 : Hid (Nw w3 w4) := ((Fr.alloc (Fr.refl _ w3) _).trans f4 (fun k hk q => by omega)); have J4 : Hid (w4.heap[w3.heap.size]? = some (.cells (hbs Y) 69 (0, 0))) := j4; clear j4 f4)
  refine (QN.out _ (LG3.out.nw N4.out) (GD3.out.nw N4.out)).mono ?_
  rintro e w5 ⟨rfl, n5⟩
  have N5 : Hid (Nw w3 w5) := N4.out.tr n5
  have J5 : Hid (w5.heap[w3.heap.size]? = some (.cells (hbs Y) 69 (0, 0))) := (n5.block _ (heap_lt J4.out) (fun f => f)).trans J4.out
  clear n5 J4 N4
  obtain ⟨b1, hb1⟩ : ∃ b, b = w3.heap.size := ⟨_, rfl⟩
  rw [← hb1] at J5 ⊢
  clear hb1
  go_upto_region 10 with (refine wp_store_agg rfl (.tmp 15) (.tmp 65) 69 32 rfl Tryz.sizeOf69 w5.heap.size 0 rfl _ 69 (heap_new _ _) (hbs X) rfl hXs (hbs_one _) (by decide) (hbs X) (by simp) ?_; intro w6 j6 f6 zz; clear zz; have N56 : Hid (Nw w5 w6) := ((Fr.alloc (Fr.refl _ w5) _).trans f6 (fun k hk q => by omega)); have J6 : Hid (w6.heap[w5.heap.size]? = some (.cells (hbs X) 69 (0, 0))) := j6; clear j6 f6)
  have N6 : Hid (Nw w3 w6) := N5.out.tr N56.out
  have J56 : Hid (w6.heap[b1]? = some (.cells (hbs Y) 69 (0, 0))) := (N56.out.block _ (heap_lt J5.out) (fun f => f)).trans J5.out
  obtain ⟨b2, hb2⟩ : ∃ b, b = w5.heap.size := ⟨_, rfl⟩
  rw [← hb2] at J6 ⊢
  clear hb2 N5 J5 N56
  have hkp : Hid (∀ V, Nw w6 V → (∀ j, j < 32 → V.cell? ⟨b1, 0 + j, none⟩ = (hbs Y)[j]?) ∧ (∀ j, j < 32 → V.cell? ⟨b2, 0 + j, none⟩ = (hbs X)[j]?)) := fun V nV => ⟨fun j _ => by rw [Nat.zero_add]; exact cell_of ((nV.block _ (heap_lt J56.out) (fun f => f)).trans J56.out) j, fun j _ => by rw [Nat.zero_add]; exact cell_of ((nV.block _ (heap_lt J6.out) (fun f => f)).trans J6.out) j⟩
  have HEND : Hid (∀ WX A C, Nw w6 WX → WX.heap[A]? = some (.cells (hbs Y) 69) → WX.heap[C]? = some (.cells (hbs X) 69) → ∃ sz', 1 ≤ sz' ∧ sz' ≤ n ∧ Bothf s0 n B K w WX eb lb base v sz' true (a 6) (.returned (.tuple #[.slice (some ⟨A, 0, none⟩) 1 1, .slice (some ⟨C, 0, none⟩) 1 1, erf fl (a 6), .nilIface, .int .u64 (sz : Int)]))) := fun WX A C nX hA hC =>
    ⟨sz, hsb.1, hsb.2, fl, s3, T, _, some ⟨C, 0, none⟩, 1, [X], rfl, HX32.out, fun hf => ⟨_, _, rfl, by have := hss_built hA; rw [HY.out.2 hf] at this; exact this⟩, hss_built hC, by simp, A3.out.2.nw (N6.out.tr nX), LG3.out.nw (N6.out.tr nX), Nat.le_trans A3.out.1 (Nat.le_trans (HTB.out trivial 10 (by have : (2 : Nat) ^ 10 = 1024 := (by decide); omega)) (by omega)), fun hf c hc => Nat.le_trans A3.out.1 (HTB.out trivial c hc)⟩
  clear A3 LG3 GD3 N6 HTB HX32 QW QE QN HLG HGG HNT J6 J56 HY
  have nb : Nw w6 w6.drew := (Fr.refl _ _).drew
  refine wp_region_held_drew (S := (fun V => (∀ j, j < 32 → V.cell? ⟨b1, 0 + j, none⟩ = (hbs Y)[j]?) ∧ (∀ j, j < 32 → V.cell? ⟨b2, 0 + j, none⟩ = (hbs X)[j]?))) (by kernel_rfl) (hkp.out _ (nb)) ?_
  intro hS0
  refine wpAnyH_take (i := 0) (oi := ({ dst := some 67, op := Op.load 69 (Operand.tmp 13), type := 69, pos := "outright.go:86", after := #[], guard := none } : Oper)) (v := .agg (hbs Y)) rfl (by kernel_rfl) (by kernel_rfl) (by kernel_rfl) (fun _ _ _ h => h) (yields_load_aJ (by rfl) (.tmp 13) 69 32 rfl Tryz.isAgg69 Tryz.sizeOf69 b1 0 rfl (hbs Y) hYs (fun w hw => hw.1)) hS0 ?_
  try simp only [Act.put, List.setIfInBounds_toArray, List.set_cons_zero, List.set_cons_succ]
  refine wpAnyH_take (i := 2) (oi := ({ dst := some 69, op := Op.load 69 (Operand.tmp 15), type := 69, pos := "outright.go:86", after := #[{ on := 7, ground := Ground.gcOnly Departure.lateStores }], guard := none } : Oper)) (v := .agg (hbs X)) rfl (by kernel_rfl) (by kernel_rfl) (by kernel_rfl) (fun _ _ _ h => h) (yields_load_aJ (by rfl) (.tmp 15) 69 32 rfl Tryz.isAgg69 Tryz.sizeOf69 b2 0 rfl (hbs X) hXs (fun w hw => hw.2)) hS0 ?_
  try simp only [Act.put, List.setIfInBounds_toArray, List.set_cons_zero, List.set_cons_succ]
  refine wpAnyH_take (i := 4) (oi := ({ dst := some 71, op := Op.move (Operand.tmp 14), type := 34, pos := "outright.go:86", after := #[{ on := 8, ground := Ground.gcOnly Departure.lateStores }], guard := none } : Oper)) (v := erf fl (a 6)) rfl (by kernel_rfl) (by kernel_rfl) (by kernel_rfl) (fun _ _ _ h => h) (Or.inl ⟨by rfl, by intro w hw; go_simp⟩) hS0 ?_
  try simp only [Act.put, List.setIfInBounds_toArray, List.set_cons_zero, List.set_cons_succ]
  refine wpAnyH_take (i := 5) (oi := ({ dst := some 72, op := Op.move (Operand.tmp 16), type := 34, pos := "outright.go:86", after := #[{ on := 9, ground := Ground.gcOnly Departure.lateStores }], guard := none } : Oper)) (v := .nilIface) rfl (by kernel_rfl) (by kernel_rfl) (by kernel_rfl) (fun _ _ _ h => h) (Or.inl ⟨by rfl, by intro w hw; go_simp⟩) hS0 ?_
  try simp only [Act.put, List.setIfInBounds_toArray, List.set_cons_zero, List.set_cons_succ]
  refine wpAnyH_take (i := 6) (oi := ({ dst := some 73, op := Op.move (Operand.tmp 12), type := 41, pos := "outright.go:86", after := #[{ on := 10, ground := Ground.gcOnly Departure.lateStores }], guard := none } : Oper)) (v := .int .u64 (sz : Int)) rfl (by kernel_rfl) (by kernel_rfl) (by kernel_rfl) (fun _ _ _ h => h) (Or.inl ⟨by rfl, by intro w hw; go_simp⟩) hS0 ?_
  try simp only [Act.put, List.setIfInBounds_toArray, List.set_cons_zero, List.set_cons_succ]
  refine wpAnyH_ready (rs := [1, 3]) (by kernel_rfl) (by simp) ?_
  refine (AllReadyH.cons (o := ({ dst := some 68, op := Op.buildSlice 45 1 #[(0, Operand.tmp 67)], type := 45, pos := "outright.go:86", after := #[{ on := 0, ground := Ground.data }], guard := none } : Oper)) rfl (fun K' hK => ?_) (AllReadyH.cons (o := ({ dst := some 70, op := Op.buildSlice 45 1 #[(0, Operand.tmp 69)], type := 45, pos := "outright.go:86", after := #[{ on := 2, ground := Ground.data }, { on := 7, ground := Ground.gcOnly Departure.lateStores }], guard := none } : Oper)) rfl (fun K' hK => ?_) AllReadyH.nil))
  · refine step_buildJ rfl rfl (.tmp 67) rfl (hbs Y) (by kernel_rfl) hYs ?_
    have nb : Nw w6 (w6.drew.alloc (.cells (hbs Y) 69)) := ((Fr.refl _ _).drew).alloc _
    have hn67 : (w6.drew.alloc (.cells (hbs Y) 69)).heap[w6.drew.heap.size]? = some (.cells (hbs Y) 69) := heap_new _ _
    refine hK.out _ _ (hkp.out _ (nb)) (fun hS0 => ?_)
    try simp only [Act.put, List.setIfInBounds_toArray, List.set_cons_zero, List.set_cons_succ]
    refine wpAnyH_ready (rs := [3, 7]) (by kernel_rfl) (by simp) ?_
    refine (AllReadyH.cons (o := ({ dst := some 70, op := Op.buildSlice 45 1 #[(0, Operand.tmp 69)], type := 45, pos := "outright.go:86", after := #[{ on := 2, ground := Ground.data }, { on := 7, ground := Ground.gcOnly Departure.lateStores }], guard := none } : Oper)) rfl (fun K' hK => ?_) (AllReadyH.cons (o := ({ dst := some 8, op := Op.assign (Operand.tmp 68), type := 45, pos := "outright.go:86", after := #[{ on := 1, ground := Ground.data }, { on := 0, ground := Ground.phase }, { on := 1, ground := Ground.phase }, { on := 2, ground := Ground.textOnly Departure.lateStores }, { on := 3, ground := Ground.textOnly Departure.lateStores }, { on := 4, ground := Ground.textOnly Departure.lateStores }, { on := 5, ground := Ground.textOnly Departure.lateStores }, { on := 6, ground := Ground.textOnly Departure.lateStores }], guard := none } : Oper)) rfl (fun K' hK => ?_) AllReadyH.nil))
    · refine step_buildJ rfl rfl (.tmp 69) rfl (hbs X) (by kernel_rfl) hXs ?_
      have nb : Nw w6 ((w6.drew.alloc (.cells (hbs Y) 69)).alloc (.cells (hbs X) 69)) := nb.alloc _
      have hn69 : ((w6.drew.alloc (.cells (hbs Y) 69)).alloc (.cells (hbs X) 69)).heap[(w6.drew.alloc (.cells (hbs Y) 69)).heap.size]? = some (.cells (hbs X) 69) := heap_new _ _
      refine hK.out _ _ (hkp.out _ (nb)) (fun hS0 => ?_)
      try simp only [Act.put, List.setIfInBounds_toArray, List.set_cons_zero, List.set_cons_succ]
      refine wpAnyH_ready (rs := [7]) (by kernel_rfl) (by simp) ?_
      refine (AllReadyH.cons (o := ({ dst := some 8, op := Op.assign (Operand.tmp 68), type := 45, pos := "outright.go:86", after := #[{ on := 1, ground := Ground.data }, { on := 0, ground := Ground.phase }, { on := 1, ground := Ground.phase }, { on := 2, ground := Ground.textOnly Departure.lateStores }, { on := 3, ground := Ground.textOnly Departure.lateStores }, { on := 4, ground := Ground.textOnly Departure.lateStores }, { on := 5, ground := Ground.textOnly Departure.lateStores }, { on := 6, ground := Ground.textOnly Departure.lateStores }], guard := none } : Oper)) rfl (fun K' hK => ?_) AllReadyH.nil)
      go_simp
      refine hK.out _ _ (hkp.out _ (nb)) (fun hS0 => ?_)
      try simp only [Act.put, List.setIfInBounds_toArray, List.set_cons_zero, List.set_cons_succ]
      refine wpAnyH_ready (rs := [8]) (by kernel_rfl) (by simp) ?_
      refine (AllReadyH.cons (o := ({ dst := some 9, op := Op.assign (Operand.tmp 70), type := 45, pos := "outright.go:86", after := #[{ on := 3, ground := Ground.data }, { on := 7, ground := Ground.chain }, { on := 0, ground := Ground.phase }, { on := 1, ground := Ground.phase }, { on := 2, ground := Ground.phase }, { on := 3, ground := Ground.phase }, { on := 4, ground := Ground.textOnly Departure.lateStores }, { on := 5, ground := Ground.textOnly Departure.lateStores }, { on := 6, ground := Ground.textOnly Departure.lateStores }, { on := 7, ground := Ground.phase }], guard := none } : Oper)) rfl (fun K' hK => ?_) AllReadyH.nil)
      go_simp
      refine hK.out _ _ (hkp.out _ (nb)) (fun hS0 => ?_)
      try simp only [Act.put, List.setIfInBounds_toArray, List.set_cons_zero, List.set_cons_succ]
      refine wpAnyH_ready (rs := [9]) (by kernel_rfl) (by simp) ?_
      refine (AllReadyH.cons (o := ({ dst := some 10, op := Op.assign (Operand.tmp 71), type := 34, pos := "outright.go:86", after := #[{ on := 4, ground := Ground.data }, { on := 8, ground := Ground.chain }, { on := 0, ground := Ground.phase }, { on := 1, ground := Ground.phase }, { on := 2, ground := Ground.phase }, { on := 3, ground := Ground.phase }, { on := 4, ground := Ground.phase }, { on := 5, ground := Ground.textOnly Departure.lateStores }, { on := 6, ground := Ground.textOnly Departure.lateStores }, { on := 7, ground := Ground.phase }, { on := 8, ground := Ground.phase }], guard := none } : Oper)) rfl (fun K' hK => ?_) AllReadyH.nil)
      go_simp
      refine hK.out _ _ (hkp.out _ (nb)) (fun hS0 => ?_)
      try simp only [Act.put, List.setIfInBounds_toArray, List.set_cons_zero, List.set_cons_succ]
      refine wpAnyH_ready (rs := [10]) (by kernel_rfl) (by simp) ?_
      refine (AllReadyH.cons (o := ({ dst := some 11, op := Op.assign (Operand.tmp 72), type := 34, pos := "outright.go:86", after := #[{ on := 5, ground := Ground.data }, { on := 9, ground := Ground.chain }, { on := 0, ground := Ground.phase }, { on := 1, ground := Ground.phase }, { on := 2, ground := Ground.phase }, { on := 3, ground := Ground.phase }, { on := 4, ground := Ground.phase }, { on := 5, ground := Ground.phase }, { on := 6, ground := Ground.textOnly Departure.lateStores }, { on := 7, ground := Ground.phase }, { on := 8, ground := Ground.phase }, { on := 9, ground := Ground.phase }], guard := none } : Oper)) rfl (fun K' hK => ?_) AllReadyH.nil)
      go_simp
      refine hK.out _ _ (hkp.out _ (nb)) (fun hS0 => ?_)
      try simp only [Act.put, List.setIfInBounds_toArray, List.set_cons_zero, List.set_cons_succ]
      refine wpAnyH_ready (rs := [11]) (by kernel_rfl) (by simp) ?_
      refine (AllReadyH.cons (o := ({ dst := some 12, op := Op.assign (Operand.tmp 73), type := 41, pos := "outright.go:86", after := #[{ on := 6, ground := Ground.data }, { on := 10, ground := Ground.chain }, { on := 0, ground := Ground.phase }, { on := 1, ground := Ground.phase }, { on := 2, ground := Ground.phase }, { on := 3, ground := Ground.phase }, { on := 4, ground := Ground.phase }, { on := 5, ground := Ground.phase }, { on := 6, ground := Ground.phase }, { on := 7, ground := Ground.phase }, { on := 8, ground := Ground.phase }, { on := 9, ground := Ground.phase }, { on := 10, ground := Ground.phase }], guard := none } : Oper)) rfl (fun K' hK => ?_) AllReadyH.nil)
      go_simp
      refine hK.out _ _ (hkp.out _ (nb)) (fun hS0 => ?_)
      try simp only [Act.put, List.setIfInBounds_toArray, List.set_cons_zero, List.set_cons_succ]
      refine wpAnyH_done (by kernel_rfl) ?_ _
      go_wp2
      refine bodyPost_ret (v := .tuple #[.slice (some ⟨w6.drew.heap.size, 0, none⟩) 1 1, .slice (some ⟨(w6.drew.alloc (.cells (hbs Y) 69)).heap.size, 0, none⟩) 1 1, erf fl (a 6), .nilIface, .int .u64 (sz : Int)]) (by simp [results, Tryz.results17]) rfl (HEND.out _ _ _ nb (by first | exact hn67 | exact ((nwa _ _).block _ (heap_lt hn67) (fun f => f)).trans hn67) (by first | exact hn69 | exact ((nwa _ _).block _ (heap_lt hn69) (fun f => f)).trans hn69))
    · go_simp
      refine hK.out _ _ (hkp.out _ (nb)) (fun hS0 => ?_)
      try simp only [Act.put, List.setIfInBounds_toArray, List.set_cons_zero, List.set_cons_succ]
      refine wpAnyH_ready (rs := [3]) (by kernel_rfl) (by simp) ?_
      refine (AllReadyH.cons (o := ({ dst := some 70, op := Op.buildSlice 45 1 #[(0, Operand.tmp 69)], type := 45, pos := "outright.go:86", after := #[{ on := 2, ground := Ground.data }, { on := 7, ground := Ground.gcOnly Departure.lateStores }], guard := none } : Oper)) rfl (fun K' hK => ?_) AllReadyH.nil)
      refine step_buildJ rfl rfl (.tmp 69) rfl (hbs X) (by kernel_rfl) hXs ?_
      have nb : Nw w6 ((w6.drew.alloc (.cells (hbs Y) 69)).alloc (.cells (hbs X) 69)) := nb.alloc _
      have hn69 : ((w6.drew.alloc (.cells (hbs Y) 69)).alloc (.cells (hbs X) 69)).heap[(w6.drew.alloc (.cells (hbs Y) 69)).heap.size]? = some (.cells (hbs X) 69) := heap_new _ _
      refine hK.out _ _ (hkp.out _ (nb)) (fun hS0 => ?_)
      try simp only [Act.put, List.setIfInBounds_toArray, List.set_cons_zero, List.set_cons_succ]
      refine wpAnyH_ready (rs := [8]) (by kernel_rfl) (by simp) ?_
      refine (AllReadyH.cons (o := ({ dst := some 9, op := Op.assign (Operand.tmp 70), type := 45, pos := "outright.go:86", after := #[{ on := 3, ground := Ground.data }, { on := 7, ground := Ground.chain }, { on := 0, ground := Ground.phase }, { on := 1, ground := Ground.phase }, { on := 2, ground := Ground.phase }, { on := 3, ground := Ground.phase }, { on := 4, ground := Ground.textOnly Departure.lateStores }, { on := 5, ground := Ground.textOnly Departure.lateStores }, { on := 6, ground := Ground.textOnly Departure.lateStores }, { on := 7, ground := Ground.phase }], guard := none } : Oper)) rfl (fun K' hK => ?_) AllReadyH.nil)
      go_simp
      refine hK.out _ _ (hkp.out _ (nb)) (fun hS0 => ?_)
      try simp only [Act.put, List.setIfInBounds_toArray, List.set_cons_zero, List.set_cons_succ]
      refine wpAnyH_ready (rs := [9]) (by kernel_rfl) (by simp) ?_
      refine (AllReadyH.cons (o := ({ dst := some 10, op := Op.assign (Operand.tmp 71), type := 34, pos := "outright.go:86", after := #[{ on := 4, ground := Ground.data }, { on := 8, ground := Ground.chain }, { on := 0, ground := Ground.phase }, { on := 1, ground := Ground.phase }, { on := 2, ground := Ground.phase }, { on := 3, ground := Ground.phase }, { on := 4, ground := Ground.phase }, { on := 5, ground := Ground.textOnly Departure.lateStores }, { on := 6, ground := Ground.textOnly Departure.lateStores }, { on := 7, ground := Ground.phase }, { on := 8, ground := Ground.phase }], guard := none } : Oper)) rfl (fun K' hK => ?_) AllReadyH.nil)
      go_simp
      refine hK.out _ _ (hkp.out _ (nb)) (fun hS0 => ?_)
      try simp only [Act.put, List.setIfInBounds_toArray, List.set_cons_zero, List.set_cons_succ]
      refine wpAnyH_ready (rs := [10]) (by kernel_rfl) (by simp) ?_
      refine (AllReadyH.cons (o := ({ dst := some 11, op := Op.assign (Operand.tmp 72), type := 34, pos := "outright.go:86", after := #[{ on := 5, ground := Ground.data }, { on := 9, ground := Ground.chain }, { on := 0, ground := Ground.phase }, { on := 1, ground := Ground.phase }, { on := 2, ground := Ground.phase }, { on := 3, ground := Ground.phase }, { on := 4, ground := Ground.phase }, { on := 5, ground := Ground.phase }, { on := 6, ground := Ground.textOnly Departure.lateStores }, { on := 7, ground := Ground.phase }, { on := 8, ground := Ground.phase }, { on := 9, ground := Ground.phase }], guard := none } : Oper)) rfl (fun K' hK => ?_) AllReadyH.nil)
      go_simp
      refine hK.out _ _ (hkp.out _ (nb)) (fun hS0 => ?_)
      try simp only [Act.put, List.setIfInBounds_toArray, List.set_cons_zero, List.set_cons_succ]
      refine wpAnyH_ready (rs := [11]) (by kernel_rfl) (by simp) ?_
      refine (AllReadyH.cons (o := ({ dst := some 12, op := Op.assign (Operand.tmp 73), type := 41, pos := "outright.go:86", after := #[{ on := 6, ground := Ground.data }, { on := 10, ground := Ground.chain }, { on := 0, ground := Ground.phase }, { on := 1, ground := Ground.phase }, { on := 2, ground := Ground.phase }, { on := 3, ground := Ground.phase }, { on := 4, ground := Ground.phase }, { on := 5, ground := Ground.phase }, { on := 6, ground := Ground.phase }, { on := 7, ground := Ground.phase }, { on := 8, ground := Ground.phase }, { on := 9, ground := Ground.phase }, { on := 10, ground := Ground.phase }], guard := none } : Oper)) rfl (fun K' hK => ?_) AllReadyH.nil)
      go_simp
      refine hK.out _ _ (hkp.out _ (nb)) (fun hS0 => ?_)
      try simp only [Act.put, List.setIfInBounds_toArray, List.set_cons_zero, List.set_cons_succ]
      refine wpAnyH_done (by kernel_rfl) ?_ _
      go_wp2
      refine bodyPost_ret (v := .tuple #[.slice (some ⟨w6.drew.heap.size, 0, none⟩) 1 1, .slice (some ⟨(w6.drew.alloc (.cells (hbs Y) 69)).heap.size, 0, none⟩) 1 1, erf fl (a 6), .nilIface, .int .u64 (sz : Int)]) (by simp [results, Tryz.results17]) rfl (HEND.out _ _ _ nb (by first | exact hn67 | exact ((nwa _ _).block _ (heap_lt hn67) (fun f => f)).trans hn67) (by first | exact hn69 | exact ((nwa _ _).block _ (heap_lt hn69) (fun f => f)).trans hn69))
  · refine step_buildJ rfl rfl (.tmp 69) rfl (hbs X) (by kernel_rfl) hXs ?_
    have nb : Nw w6 (w6.drew.alloc (.cells (hbs X) 69)) := ((Fr.refl _ _).drew).alloc _
    have hn69 : (w6.drew.alloc (.cells (hbs X) 69)).heap[w6.drew.heap.size]? = some (.cells (hbs X) 69) := heap_new _ _
    refine hK.out _ _ (hkp.out _ (nb)) (fun hS0 => ?_)
    try simp only [Act.put, List.setIfInBounds_toArray, List.set_cons_zero, List.set_cons_succ]
    refine wpAnyH_ready (rs := [1]) (by kernel_rfl) (by simp) ?_
    refine (AllReadyH.cons (o := ({ dst := some 68, op := Op.buildSlice 45 1 #[(0, Operand.tmp 67)], type := 45, pos := "outright.go:86", after := #[{ on := 0, ground := Ground.data }], guard := none } : Oper)) rfl (fun K' hK => ?_) AllReadyH.nil)
    refine step_buildJ rfl rfl (.tmp 67) rfl (hbs Y) (by kernel_rfl) hYs ?_
    have nb : Nw w6 ((w6.drew.alloc (.cells (hbs X) 69)).alloc (.cells (hbs Y) 69)) := nb.alloc _
    have hn67 : ((w6.drew.alloc (.cells (hbs X) 69)).alloc (.cells (hbs Y) 69)).heap[(w6.drew.alloc (.cells (hbs X) 69)).heap.size]? = some (.cells (hbs Y) 69) := heap_new _ _
    refine hK.out _ _ (hkp.out _ (nb)) (fun hS0 => ?_)
    try simp only [Act.put, List.setIfInBounds_toArray, List.set_cons_zero, List.set_cons_succ]
    refine wpAnyH_ready (rs := [7]) (by kernel_rfl) (by simp) ?_
    refine (AllReadyH.cons (o := ({ dst := some 8, op := Op.assign (Operand.tmp 68), type := 45, pos := "outright.go:86", after := #[{ on := 1, ground := Ground.data }, { on := 0, ground := Ground.phase }, { on := 1, ground := Ground.phase }, { on := 2, ground := Ground.textOnly Departure.lateStores }, { on := 3, ground := Ground.textOnly Departure.lateStores }, { on := 4, ground := Ground.textOnly Departure.lateStores }, { on := 5, ground := Ground.textOnly Departure.lateStores }, { on := 6, ground := Ground.textOnly Departure.lateStores }], guard := none } : Oper)) rfl (fun K' hK => ?_) AllReadyH.nil)
    go_simp
    refine hK.out _ _ (hkp.out _ (nb)) (fun hS0 => ?_)
    try simp only [Act.put, List.setIfInBounds_toArray, List.set_cons_zero, List.set_cons_succ]
    refine wpAnyH_ready (rs := [8]) (by kernel_rfl) (by simp) ?_
    refine (AllReadyH.cons (o := ({ dst := some 9, op := Op.assign (Operand.tmp 70), type := 45, pos := "outright.go:86", after := #[{ on := 3, ground := Ground.data }, { on := 7, ground := Ground.chain }, { on := 0, ground := Ground.phase }, { on := 1, ground := Ground.phase }, { on := 2, ground := Ground.phase }, { on := 3, ground := Ground.phase }, { on := 4, ground := Ground.textOnly Departure.lateStores }, { on := 5, ground := Ground.textOnly Departure.lateStores }, { on := 6, ground := Ground.textOnly Departure.lateStores }, { on := 7, ground := Ground.phase }], guard := none } : Oper)) rfl (fun K' hK => ?_) AllReadyH.nil)
    go_simp
    refine hK.out _ _ (hkp.out _ (nb)) (fun hS0 => ?_)
    try simp only [Act.put, List.setIfInBounds_toArray, List.set_cons_zero, List.set_cons_succ]
    refine wpAnyH_ready (rs := [9]) (by kernel_rfl) (by simp) ?_
    refine (AllReadyH.cons (o := ({ dst := some 10, op := Op.assign (Operand.tmp 71), type := 34, pos := "outright.go:86", after := #[{ on := 4, ground := Ground.data }, { on := 8, ground := Ground.chain }, { on := 0, ground := Ground.phase }, { on := 1, ground := Ground.phase }, { on := 2, ground := Ground.phase }, { on := 3, ground := Ground.phase }, { on := 4, ground := Ground.phase }, { on := 5, ground := Ground.textOnly Departure.lateStores }, { on := 6, ground := Ground.textOnly Departure.lateStores }, { on := 7, ground := Ground.phase }, { on := 8, ground := Ground.phase }], guard := none } : Oper)) rfl (fun K' hK => ?_) AllReadyH.nil)
    go_simp
    refine hK.out _ _ (hkp.out _ (nb)) (fun hS0 => ?_)
    try simp only [Act.put, List.setIfInBounds_toArray, List.set_cons_zero, List.set_cons_succ]
    refine wpAnyH_ready (rs := [10]) (by kernel_rfl) (by simp) ?_
    refine (AllReadyH.cons (o := ({ dst := some 11, op := Op.assign (Operand.tmp 72), type := 34, pos := "outright.go:86", after := #[{ on := 5, ground := Ground.data }, { on := 9, ground := Ground.chain }, { on := 0, ground := Ground.phase }, { on := 1, ground := Ground.phase }, { on := 2, ground := Ground.phase }, { on := 3, ground := Ground.phase }, { on := 4, ground := Ground.phase }, { on := 5, ground := Ground.phase }, { on := 6, ground := Ground.textOnly Departure.lateStores }, { on := 7, ground := Ground.phase }, { on := 8, ground := Ground.phase }, { on := 9, ground := Ground.phase }], guard := none } : Oper)) rfl (fun K' hK => ?_) AllReadyH.nil)
    go_simp
    refine hK.out _ _ (hkp.out _ (nb)) (fun hS0 => ?_)
    try simp only [Act.put, List.setIfInBounds_toArray, List.set_cons_zero, List.set_cons_succ]
    refine wpAnyH_ready (rs := [11]) (by kernel_rfl) (by simp) ?_
    refine (AllReadyH.cons (o := ({ dst := some 12, op := Op.assign (Operand.tmp 73), type := 41, pos := "outright.go:86", after := #[{ on := 6, ground := Ground.data }, { on := 10, ground := Ground.chain }, { on := 0, ground := Ground.phase }, { on := 1, ground := Ground.phase }, { on := 2, ground := Ground.phase }, { on := 3, ground := Ground.phase }, { on := 4, ground := Ground.phase }, { on := 5, ground := Ground.phase }, { on := 6, ground := Ground.phase }, { on := 7, ground := Ground.phase }, { on := 8, ground := Ground.phase }, { on := 9, ground := Ground.phase }, { on := 10, ground := Ground.phase }], guard := none } : Oper)) rfl (fun K' hK => ?_) AllReadyH.nil)
    go_simp
    refine hK.out _ _ (hkp.out _ (nb)) (fun hS0 => ?_)
    try simp only [Act.put, List.setIfInBounds_toArray, List.set_cons_zero, List.set_cons_succ]
    refine wpAnyH_done (by kernel_rfl) ?_ _
    go_wp2
    refine bodyPost_ret (v := .tuple #[.slice (some ⟨(w6.drew.alloc (.cells (hbs X) 69)).heap.size, 0, none⟩) 1 1, .slice (some ⟨w6.drew.heap.size, 0, none⟩) 1 1, erf fl (a 6), .nilIface, .int .u64 (sz : Int)]) (by simp [results, Tryz.results17]) rfl (HEND.out _ _ _ nb (by first | exact hn67 | exact ((nwa _ _).block _ (heap_lt hn67) (fun f => f)).trans hn67) (by first | exact hn69 | exact ((nwa _ _).block _ (heap_lt hn69) (fun f => f)).trans hn69))
theorem ansf_any {s0 : RS} {n B K : Nat} {w : World} (h : s0.At (ldH n) B K w) {eb lb base : Nat} {v : Value} (he : Eng s0 w eb n) (hl : Lg w lb base v (ldS n)) (hlt : s0.tg lb = 9 ∧ ∀ q, v.ownBlock = some q → s0.tg q = 9) (hn : 1 ≤ n ∧ n ≤ 1000) {a : Nat → Addr} (hG : Gd B a w) (hT : TabAt w) (hK : K ≤ 900000)
    (kd : Int) (x y z : Nat) (hx : x < 18446744073709551616) (hy : y < 18446744073709551616) (hz : z < 18446744073709551616) :
    Calls Tryz.prog 17 #[.pointer (some ⟨eb, 0, none⟩), .pointer (some ⟨lb, 0, none⟩), .agg #[.int .i64 kd, .int .u64 (x : Int), .int .u64 (y : Int), .int .u64 (z : Int)], .int .u64 (n : Int)] w fun e w' =>
      ∃ sz, 1 ≤ sz ∧ sz ≤ n ∧ Bothf s0 n B K w w' eb lb base v sz (decide (bits BinOp.and IntKind.i64 kd 3 ≠ 3)) (a 6) e := by
  have hand : bits BinOp.and IntKind.i64 kd 3 = kd % 4 := by
    have h127 : (BitVec.ofInt 64 3).toNat = 2 ^ 2 - 1 := by decide
    have key : (BitVec.ofInt 64 kd &&& BitVec.ofInt 64 3).toNat = (kd % ((2 ^ 64 : Nat) : Int)).toNat % 2 ^ 2 := by
      rw [BitVec.toNat_and, BitVec.toNat_ofInt, h127, Nat.and_two_pow_sub_one_eq_mod]
    show IntKind.i64.wrap ((BitVec.ofInt 64 kd &&& BitVec.ofInt 64 3).toNat : Nat) = kd % 4
    rw [key, IntKind.wrap_i64]
    omega
  have h4 : 0 ≤ kd % 4 ∧ kd % 4 < 4 := ⟨by omega, by omega⟩
  rcases (show kd % 4 = 0 ∨ kd % 4 = 1 ∨ kd % 4 = 2 ∨ kd % 4 = 3 by omega) with q | q | q | q
  · rw [decide_eq_true (by rw [hand, q]; decide)]
    exact ansf_root h he hl hlt hn hG hT hK kd (hand.trans q) x y z hx hz
  · rw [decide_eq_true (by rw [hand, q]; decide)]
    exact ansf_path h he hl hlt hn hG hT hK kd (hand.trans q) x y z hx hz
  · rw [decide_eq_true (by rw [hand, q]; decide)]
    exact ansf_proof h he hl hlt hn hG hT hK kd (hand.trans q) x y z hx hz
  · rw [decide_eq_false (by rw [hand, q]; decide)]
    exact ansf_batch h he hl hlt hn hG hT hK kd ⟨by rw [hand, q]; decide, by rw [hand, q]; decide, by rw [hand, q]; decide⟩ x y z hx hy hz
end Go.Proofs.YtjkhcplnedcmeaaGreatDoor
