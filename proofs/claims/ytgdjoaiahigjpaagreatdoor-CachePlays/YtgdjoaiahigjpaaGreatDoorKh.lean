/- cache: Keys. -/
import Derived.Test.YtgdjoaiahigjpaaGreatDoorKf
import Derived.Laws.MakeOwn
namespace Go.Proofs.YtgdjoaiahigjpaaGreatDoor.CI
open Go.RowKit Go.Maps Go.WideMaps Go.Proofs.YtgdjoaiahigjpaaGreatDoor
set_option linter.unusedVariables false
set_option linter.unusedSimpArgs false
theorem infoK : (Tryz.prog.info? 3).map (fun i => (i.zero, i.size, i.bytes)) = some (some (kv kz), 1, 8) := by kernel_rfl
def sln : Value → Nat | .slice _ n _ => n | _ => 0
theorem own_sln {w : World} {base : Nat} {e : TypeId} {size : Nat} {v : Value} {n : Nat} {xs : List Value} (h : w.ownsRow base e size v n xs) : sln v = n := by
  rcases h.2 with ⟨rfl, rfl⟩ | ⟨g, cap, cur, rfl, _⟩
  · rfl
  · rfl
/-- Keys as cells. -/
def kcs (L : List KT) : List Value := L.map kv
theorem kcs_app (L : List KT) (k : KT) : kcs (L ++ [k]) = kcs L ++ [kv k] := by simp [kcs]
theorem k1_new (w : World) (a : Value) (t : TypeId) : ∀ j u, [a][j]? = some u → (w.alloc (.cells #[a] t)).cell? ((⟨w.heap.size, 0, none⟩ : Addr).add j) = some u := by
  intro j u h
  rw [addO, cell_of (heap_new _ _)]
  match j, h with
  | 0, h => simpa using h
  | j + 1, h => simp at h
set_option maxRecDepth 100000 in
set_option maxHeartbeats 2000000 in
theorem keys_ca {W : World} {b bm g c nm n cap : Nat} {ks : Nat → KT} {vs : Nat → VT} {nw od : Nat → Nat} {M : Pm} {O : List Nat} (h1 : Ca W b bm g c nm n (cap : Int) ks vs nw od M) (h2 : Lo n ks nw od M O) (hc : O.length ≤ 1024) :
    Calls Tryz.prog 16 #[.pointer (some ⟨b, 0, none⟩)] W fun e w' => ∃ v, e = .returned v ∧ w'.ownsRow W.heap.size 3 1 v O.length (kcs (O.map ks)) ∧ Nw W w' := by
  have q0 := there_any h1.blk
  have hlen := h2.len
  obtain ⟨l, rfl⟩ : ∃ l, n = l + 1 := ⟨n - 1, by omega⟩
  have hl : l = O.length := by omega
  have q1 := len_blk h1.blk (n := l) (by omega)
  have HC : Hid (Ca W b bm g c nm (l + 1) (cap : Int) ks vs nw od M) := h1
  have HL : Hid (Lo (l + 1) ks nw od M O) := h2
  have Hl : Hid (O.length = l) := hl.symm
  obtain ⟨_, c1, _⟩ := cac_cs h1.blk
  have lb := heap_lt h1.blk
  have lg := h1.row.lt
  obtain ⟨_, _, _, r3⟩ := h1.row.cell (i := 0) (by omega)
  simp only [Nat.zero_mul, Nat.zero_add] at r3
  rw [ring_first h2.ring] at r3
  obtain ⟨i0, hi0, hie⟩ := Option.map_eq_some_iff.1 infoK
  simp only [Prod.mk.injEq] at hie
  obtain ⟨hz0, hz1, hz2⟩ := hie
  have HI0 : Hid (Tryz.prog.info? 3 = some i0 ∧ i0.zero = some (kv kz) ∧ i0.size = 1 ∧ i0.bytes = 8) := ⟨hi0, hz0, hz1, hz2⟩
  obtain ⟨w1, hmk, hown, hgr⟩ := run_make_own (P := Tryz.prog) W W.heap.size 55 3 i0 (kv kz) 1 Tryz.underlying55 hi0 hz0 hz1 .i64 .i64 l (by rw [hz2]; omega) (by unfold maxLen; omega) (Nat.le_refl _)
  have n1 : Nw W w1 := (Fr.refl _ _).grown hgr (fun k e _ => by cases e)
  have HN1 : Hid (Nw W w1) := n1
  have HO1 : Hid (w1.ownsRow W.heap.size 3 1 (.slice (some ⟨W.heap.size, 0, none⟩) 0 l) 0 []) := hown
  have d1 := n1.cellOf c1
  have d3 := n1.cellOf r3
  have lb1 := Nat.lt_of_lt_of_le lb n1.size
  have lg1 := Nat.lt_of_lt_of_le lg n1.size
  have hl1 : l ≤ 1024 := by omega
  clear h1 h2 hi0 hz0 hz1 hz2 hown hgr n1 hlen hc
  rw [← hl]
  clear hl
  go_enter Tryz.func16, Tryz.ntmps16
  go_wp2_with fail
  refine q0.mono ?_
  rintro e w0 ⟨rfl, rfl⟩
  go_wp2_with fail
  refine q1.mono ?_
  rintro e w00 ⟨rfl, rfl⟩
  clear q0 q1
  go_wp2
  clear d1 d3 lb1 lg1 c1 r3 hmk
  go_loopw [3, 4] (fun v3 v4 wx => ∃ i : Nat, i ≤ l ∧ v4 = .int .i64 ((O.getD i 0 : Nat) : Int) ∧ wx.ownsRow w00.heap.size 3 1 v3 i (kcs ((O.take i).map ks)) ∧ Nw w00 wx) (fun v3 _ _ => l - sln v3)
  case atStart => exact ⟨0, by omega, rfl, by simpa [kcs] using HO1.out, HN1.out⟩
  case round =>
    obtain ⟨i, hi, rfl, hown, nwx⟩ := hrel
    have hsl := own_sln hown
    by_cases hil : i < l
    · have hio : i < O.length := by rw [Hl.out]; exact hil
      have hmem : O.getD i 0 ∈ O := by rw [List.getD_eq_getElem?_getD, List.getElem?_eq_getElem hio]; simp
      have hpm := (HL.out.mem _).1 hmem
      have hnx := ring_next HL.out.ring hio
      obtain ⟨p, hp⟩ : ∃ p, p = O.getD i 0 := ⟨_, rfl⟩
      have hget : O[i]? = some p := by rw [hp, List.getD_eq_getElem?_getD, List.getElem?_eq_getElem hio]; simp
      rw [← hp] at hpm hnx ⊢
      obtain ⟨y, hy⟩ : ∃ y, y = O.getD (i + 1) 0 := ⟨_, rfl⟩
      rw [← hy] at hnx
      have HY : Hid (y = O.getD (i + 1) 0) := hy
      have C := HC.out.nw nwx
      obtain ⟨_, c1, _⟩ := cac_cs C.blk
      have lb := heap_lt C.blk
      have lg := C.row.lt
      obtain ⟨r0, _, _, r3⟩ := C.row.cell (i := p) hpm.2
      rw [hnx] at r3
      have hp0 : ((p : Int) != 0) = true := by simp; omega
      have hp1 : ¬ (p : Int) = 0 := by omega
      have hpi : (p : Int) < (l : Int) + 1 := by omega
      obtain ⟨va, vc, rfl⟩ : ∃ va vc, u3 = .slice va i vc := by
        rcases hown.2 with ⟨rfl, rfl⟩ | ⟨g, cap, cur, rfl, _⟩
        · exact ⟨none, 0, rfl⟩
        · exact ⟨_, _, rfl⟩
      have HTK : Hid (kcs ((O.take i).map ks) ++ [kv (ks p)] = kcs ((O.take (i + 1)).map ks)) := by
        show _ = _
        rw [List.take_add_one, hget, Option.toList_some, List.map_append, List.map_cons, List.map_nil, kcs_app]
      have OWN : Hid ((wr.alloc (.cells #[kv (ks p)] 3)).ownsRow w00.heap.size 3 1 (.slice va i vc) i (kcs ((O.take i).map ks))) := hown.alloc _
      have HSZ : Hid (w00.heap.size ≤ (wr.alloc (.cells #[kv (ks p)] 3)).heap.size) := by show _ ≤ _; have := nwx.size; simp; omega
      have HNew := show Hid (∀ j u, [kv (ks p)][j]? = some u → (wr.alloc (.cells #[kv (ks p)] 3)).cell? ((⟨wr.heap.size, 0, none⟩ : Addr).add j) = some u) from k1_new wr _ _
      have HFF : Hid (∀ v' w5, w5.ownsRow w00.heap.size 3 1 v' (i + 1) (kcs ((O.take i).map ks) ++ [kv (ks p)]) → Two (wr.alloc (.cells #[kv (ks p)] 3)) w5 3 1 (.slice va i vc) v' i 1 (kcs ((O.take i).map ks) ++ [kv (ks p)]) → ∃ xa xc, v' = .slice xa (i + 1 : Nat) xc ∧ w5.ownsRow w00.heap.size 3 1 (.slice xa (i + 1 : Nat) xc) (i + 1) (kcs ((O.take (i + 1)).map ks)) ∧ Nw w00 w5) := by
        intro v' w5 o5 t5
        rw [HTK.out] at o5
        obtain ⟨xa, xc, rfl⟩ : ∃ xa xc, v' = .slice xa (i + 1 : Nat) xc := by
          rcases o5.2 with ⟨_, h0⟩ | ⟨g, cap, cur, hv, _⟩
          · omega
          · exact ⟨_, _, hv⟩
        exact ⟨xa, xc, rfl, o5, (nwx.alloc _).trans t5.fr (fun j hj e => by have := (hown.lt j e).1; omega)⟩
      have HPC : Hid (∀ V, Nw w00 V → Ca V b bm g c nm (l + 1) (cap : Int) ks vs nw od M) := fun V nV => HC.out.nw nV
      have HPN : Hid (od p = y ∧ p < l + 1) := ⟨hnx, hpm.2⟩
      clear hown nwx C hy hnx hpm hmem hget hio hp hsl
      go_wp2_with (at_builtin; refine wpList_two _ rfl (.tmp 28) (.tmp 37) 55 rfl w00.heap.size 3 i0 (kv kz) 1 8 Tryz.underlying55 HI0.out.1 HI0.out.2.1 HI0.out.2.2.1 HI0.out.2.2.2 rfl (by decide) (.slice va i vc) i (kcs ((O.take i).map ks)) rfl OWN.out ⟨wr.heap.size, 0, none⟩ 1 1 [kv (ks p)] rfl rfl HNew.out (by simp [Value.oneCell']) (by unfold maxLen; omega) (by omega) HSZ.out ?_; intro v' w5 o5 t5; have HX5 := show Hid _ from HFF.out v' w5 o5 t5; clear o5 t5; obtain ⟨xa, xc, rfl, ho5, n5⟩ := HX5.out; have C5 := HPC.out w5 n5; obtain ⟨_, k1, _⟩ := cac_cs C5.blk; have l5 := heap_lt C5.blk; have lg5 := C5.row.lt; obtain ⟨_, _, _, s3⟩ := C5.row.cell (i := p) HPN.out.2; rw [HPN.out.1] at s3; have HO5 := show Hid _ from ho5; have HN5 := show Hid (Nw w00 w5) from n5; clear HX5 C5 ho5 n5)
      exact ⟨⟨i + 1, by omega, by rw [HY.out], HO5.out, HN5.out⟩, by simp [sln]; omega⟩
    · obtain rfl : i = l := by omega
      have hz : O.getD i 0 = 0 := by rw [List.getD_eq_getElem?_getD, List.getElem?_eq_none (by rw [Hl.out]; exact Nat.le_refl _)]; rfl
      rw [hz]
      have e1 : O.take i = O := by rw [← Hl.out, List.take_length]
      rw [e1] at hown
      have HO : Hid (wr.ownsRow w00.heap.size 3 1 u3 i (kcs (O.map ks))) := hown
      have HN : Hid (Nw w00 wr) := nwx
      clear hown nwx hsl
      go_wp2
      go_ret
      exact ⟨_, rfl, HO.out, HN.out⟩
theorem keys_any {W : World} {S : Nat → Prop} {b N cap : Nat} {L : LT} (h : Cx W S b N cap L) :
    Calls Tryz.prog 16 #[.pointer (some ⟨b, 0, none⟩)] W fun e w' => ∃ v, e = .returned v ∧ w'.ownsRow W.heap.size 3 1 v L.length (kcs (L.map Prod.fst)) ∧ Nw W w' := by
  obtain ⟨bm, g, c, nm, n, ks, vs, nw, od, M, O, h1, h2, h3, h4, h5, h6, h7, h8, h9⟩ := h
  subst h3
  rw [List.length_map, List.map_map]
  exact keys_ca h1 h2 (by omega)
end Go.Proofs.YtgdjoaiahigjpaaGreatDoor.CI
