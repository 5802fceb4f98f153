/- A hash's bytes; what Leaf and Empty answer. -/
import Derived.Test.YtaeocbdphfkflaaDoorPg
import Derived.Test.YtaeocbdphfkflaaDoorEg
import Derived.Deep.MidRow
namespace Go.Proofs.YtaeocbdphfkflaaDoor
open Go.RowKit
set_option linter.unusedVariables false
set_option linter.unusedSimpArgs false

/-- Bytes as the cells of an array. -/
def hbs (L : List UInt8) : Array Value := (bc L).toArray
theorem hbs_size (L : List UInt8) : (hbs L).size = L.length := by simp [hbs, bc]
theorem hbs_one (L : List UInt8) : ∀ u ∈ (hbs L).toList, u.oneCell' = true := by
  intro u hu
  simp only [hbs, bc, List.mem_map] at hu
  obtain ⟨x, _, rfl⟩ := hu
  rfl
theorem hbs_get (L : List UInt8) (i : Nat) (h : i < L.length) : (hbs L)[i]? = some (.int .u8 ((L.getD i 0).toNat : Nat)) := by
  rw [hbs, List.getElem?_toArray, bc, List.getElem?_map, List.getD_eq_getElem?_getD, List.getElem?_eq_getElem h]; rfl
def shb (s : V8) : List UInt8 := (List.range 32).map fun i => UInt8.ofNat (hby s i)
theorem shb_len (s : V8) : (shb s).length = 32 := by simp [shb]
theorem hcs_hbs (s : V8) : hcs s 32 = hbs (shb s) := by
  apply Array.ext
  · rw [hcs_size, hbs_size, shb_len]
  · intro i h1 h2
    have hi : i < 32 := by simpa [hcs_size] using h1
    have h3 := hby_lt s i
    simp [hcs, hbs, bc, shb, hi, Nat.mod_eq_of_lt h3]
/-- SHA of bytes, as bytes. -/
def Sh (L : List UInt8) : List UInt8 := shb (sha L)
theorem Sh_len (L : List UInt8) : (Sh L).length = 32 := shb_len _
theorem hsh_hbs (L : List UInt8) : hsh (sha L) = .agg (hbs (Sh L)) := by unfold hsh Sh; rw [hcs_hbs]
theorem z32_h : (#[.int .u8 0, .int .u8 0, .int .u8 0, .int .u8 0, .int .u8 0, .int .u8 0, .int .u8 0, .int .u8 0, .int .u8 0, .int .u8 0, .int .u8 0, .int .u8 0, .int .u8 0, .int .u8 0, .int .u8 0, .int .u8 0, .int .u8 0, .int .u8 0, .int .u8 0, .int .u8 0, .int .u8 0, .int .u8 0, .int .u8 0, .int .u8 0, .int .u8 0, .int .u8 0, .int .u8 0, .int .u8 0, .int .u8 0, .int .u8 0, .int .u8 0, .int .u8 0] : Array Value) = z32 := by kernel_rfl
theorem z32_hbs : z32 = hbs (List.replicate 32 0) := by
  rw [z32, hbs, bc, List.map_replicate]; rfl

theorem sumh_any (p : Option Addr) (cap : Nat) (ss : List ByteArray) (w : World) (hp : Strs w p ss) (hL : Laid w) (hlen : (cat ss).length < 576460752303423488) (hcnt : ss.length < 4611686018427387904) :
    Calls Tryd.prog 44 #[.slice p ss.length cap] w fun e w' => e = .returned (.agg (hbs (Sh (cat ss)))) ∧ Nw w w' := by
  rw [← hsh_hbs]
  exact sums_any p cap ss w hp hL hlen hcnt
theorem strs1 (w : World) (a : ByteArray) : Strs (w.alloc (.cells #[.string a] 9)) (some ⟨w.heap.size, 0, none⟩) [a] := fun j x hx => by
  match j, hx with
  | 0, hx => cases hx; exact ⟨_, _, rfl, cell_of (heap_new w _) 0⟩
theorem strs2 (w : World) (a b : ByteArray) : Strs (w.alloc (.cells #[.string a, .string b] 9)) (some ⟨w.heap.size, 0, none⟩) [a, b] := fun j x hx => by
  match j, hx with
  | 0, hx => cases hx; exact ⟨_, _, rfl, cell_of (heap_new w _) 0⟩
  | 1, hx => cases hx; exact ⟨_, _, rfl, cell_of (heap_new w _) 1⟩
theorem strs3 (w : World) (a b c : ByteArray) : Strs (w.alloc (.cells #[.string a, .string b, .string c] 9)) (some ⟨w.heap.size, 0, none⟩) [a, b, c] := fun j x hx => by
  match j, hx with
  | 0, hx => cases hx; exact ⟨_, _, rfl, cell_of (heap_new w _) 0⟩
  | 1, hx => cases hx; exact ⟨_, _, rfl, cell_of (heap_new w _) 1⟩
  | 2, hx => cases hx; exact ⟨_, _, rfl, cell_of (heap_new w _) 2⟩
theorem strs0 (w : World) : Strs w none [] := fun j x hx => by simp at hx

set_option maxRecDepth 100000 in
set_option maxHeartbeats 1000000 in
theorem empty_any (w : World) (hL : Laid w) :
    Calls Tryd.prog 40 #[] w fun e w' => e = .returned (.agg (hbs (Sh []))) ∧ Nw w w' := by
  have HL : Hid (Laid w) := hL
  clear hL
  go_enter Tryd.func40, Tryd.ntmps40
  go_wp2_with fail
  rw [z32_h]
  have hz : (w.alloc (.cells z32 24)).heap[w.heap.size]? = some (.cells z32 24) := heap_new w _
  have n1 : Nw w (w.alloc (.cells z32 24)) := (Fr.refl _ _).alloc _
  refine (sumh_any none 0 [] _ (strs0 _) (HL.out.nw n1) (by decide) (by decide)).mono ?_
  rintro e2 w2 ⟨rfl, n2⟩
  have hz2 : w2.heap[w.heap.size]? = some (.cells z32 24) := (n2.block w.heap.size (by simp) (fun f => f)).trans hz
  have hn : Nw w w2 := n1.tr n2
  clear hz n2 n1
  obtain ⟨R, hR⟩ : ∃ R, R = Sh (cat []) := ⟨_, rfl⟩
  rw [← hR]
  have HR : Hid (R = Sh (cat [])) := hR
  have hRl : (hbs R).size = 32 := by rw [hbs_size, hR, Sh_len]
  clear hR
  go_wp2_with (refine wp_store_agg rfl (.tmp 0) (.tmp 1) 24 32 rfl Tryd.sizeOf24 w.heap.size 0 rfl z32 24 hz2 (hbs R) rfl hRl (hbs_one _) (by decide) (hbs R) (by rw [z32_drop]; simp) ?_; intro w3 j3 f3 z3)
  exact bodyPost_ret (results_cell Tryd.results40 Tryd.isAgg24 Tryd.sizeOf24 rfl j3 hRl) rfl ⟨by rw [HR.out]; rfl, hn.trans f3 (fun k hk q => by omega)⟩

end Go.Proofs.YtaeocbdphfkflaaDoor
namespace Go.Proofs.YtaeocbdphfkflaaDoor
open Go.RowKit
set_option linter.unusedVariables false
set_option linter.unusedSimpArgs false

/-- Bytes in memory. -/
def Bys (w : World) (p : Option Addr) (L : List UInt8) : Prop := ∀ j, j < L.length → ∃ g o, p = some ⟨g, o, none⟩ ∧ w.cell? ⟨g, o + j, none⟩ = some (.int .u8 ((L.getD j 0).toNat : Nat))
theorem Bys.nw {w w' : World} {p : Option Addr} {L : List UInt8} (h : Bys w p L) (k : Nw w w') : Bys w' p L := fun j hj => by
  obtain ⟨g, o, hp, hc⟩ := h j hj
  exact ⟨g, o, hp, k.cellOf hc⟩
theorem conv_none (c : Nat) (w : World) : (convert 87 9 (.slice none 0 c)).run Tryd.prog w = .ok (.string ⟨#[]⟩) w := by kernel_rfl
theorem conv_bys {w : World} {p : Option Addr} {L : List UInt8} (h : Bys w p L) (c : Nat) : (convert 87 9 (.slice p L.length c)).run Tryd.prog w = .ok (.string ⟨L.toArray⟩) w := by
  rcases p with _ | a
  · rcases L with _ | ⟨x, L⟩
    · exact conv_none c w
    · obtain ⟨g, o, hp, _⟩ := h 0 (by simp)
      cases hp
  · refine run_convert_bytes_back w _ _ _ _ _ _ Tryd.underlying87 Tryd.underlying5 Tryd.underlying9 (fun j hj => ?_)
    obtain ⟨g, o, hp, hc⟩ := h j hj
    cases hp
    rw [addO, hc, List.getD_eq_getElem?_getD, List.getElem?_eq_getElem hj]
    rfl
theorem bys_block {w : World} {b : Nat} {A : List UInt8} {t : TypeId} {f : Nat × Nat} (h : w.heap[b]? = some (.cells (hbs A) t f)) : Bys w (some ⟨b, 0, none⟩) A := fun j hj => by
  refine ⟨b, 0, rfl, ?_⟩
  rw [Nat.zero_add, cell_of h, hbs_get A j hj]
theorem conv_h {w : World} {b : Nat} {A : List UInt8} {t : TypeId} {f : Nat × Nat} (h : w.heap[b]? = some (.cells (hbs A) t f)) (hA : A.length = 32) : (convert 87 9 (.slice (some ⟨b, 0, none⟩) 32 32)).run Tryd.prog w = .ok (.string ⟨A.toArray⟩) w := by
  have := conv_bys (bys_block h) 32
  rw [hA] at this
  exact this

/-- A thing stored whole, as one step of a statement whose order is drawn. -/
theorem step_store_agg {P : Program} {ops : Array Oper} {o : Oper} {a : Act} {w : World} {K : Act → World → Prop} {Q : Exit → Act → World → Prop} {E : Prop} (hgd : o.guard = none) (x v : Operand) (t : TypeId) (n : Nat) (ho : o.op = .store t x v)
    (hsz : ∀ W : World, (sizeOf t).run P W = .ok n W) (g off : Nat) (hx : a.eval x = .pointer (some ⟨g, off, none⟩)) (cur : Array Value) (ty : TypeId) (hg : w.heap[g]? = some (.cells cur ty (0, 0)))
    (V : Array Value) (hv : a.eval v = .agg V) (hV : V.size = n) (h1 : ∀ u ∈ V.toList, u.oneCell' = true) (hfit : off + n ≤ cur.size)
    (new : Array Value) (hnew : new.toList = cur.toList.take off ++ V.toList ++ cur.toList.drop (off + n))
    (h : ∀ w', w'.heap[g]? = some (.cells new ty (0, 0)) → Fr (fun k => k = g) w w' → w'.heap.size = w.heap.size → K (a.put o.dst undef) w') : if Region.wanted o (yielded ops a.tmps) = true then Oper.wp P o a w K Q else E := by
  have hw : Region.wanted o (yielded ops a.tmps) = true := by simp [Region.wanted, hgd]
  rw [if_pos hw]
  have hst := run_storeCells_at P g off ty V.toList 0 cur w hg (by simp [hV]; omega) h1
  simp only [Nat.add_zero, Array.length_toList, hV] at hst
  have hn : new = (cur.toList.take off ++ V.toList ++ cur.toList.drop (off + n)).toArray := by
    apply Array.ext'; rw [hnew]
  rw [← hn] at hst
  unfold Oper.wp execOp
  simp only [ho, hx, hv, Instr.storeAt, sure, storeVar, Value.cells, hV, Sem.run_bind, Sem.run_pure, hsz, hst, Result.andThen_ok, ne_eq, not_true, if_false, not_false_eq_true]
  simp only [Oper.upon]
  exact h _ (setRow_heap w g cur new ty (0, 0) hg) ⟨rfl, rfl, rfl, by simp, fun k hk hne => setRow_other w g k new hne⟩ (by simp)
/-- A thing loaded whole yields it wherever its block is as it was. -/
theorem yields_load_agg {P : Program} {ops : Array Oper} {S : World → Prop} {o : Oper} {a : Act} (hgd : o.guard = none) (x : Operand) (t : TypeId) (n : Nat) (ho : o.op = .load t x)
    (hagg : ∀ W : World, (isAgg t).run P W = .ok true W) (hsz : ∀ W : World, (sizeOf t).run P W = .ok n W) (g : Nat) (hx : a.eval x = .pointer (some ⟨g, 0, none⟩)) (ty : TypeId)
    (V : Array Value) (hV : V.size = n) (hg : ∀ w, S w → w.heap[g]? = some (.cells V ty (0, 0))) : YieldsIf P ops S o (.agg V) a := by
  refine .inl ⟨by simp [Region.wanted, hgd], fun w hw => ?_⟩
  have hl : (loadCells ⟨g, 0, none⟩ n).run P w = .ok V w := by
    have := run_loadCells_list (P := P) w ⟨g, 0, none⟩ V.toList (fun j v hv => by
      rw [addZ, cell_of (hg w hw)]
      simpa using hv)
    simpa [hV] using this
  unfold execOp
  simp only [ho, hx, Instr.loadAt, sure, loadVar, Sem.run_bind, Sem.run_pure, hagg, hsz, hl, Result.andThen_ok, if_true]
set_option maxRecDepth 100000 in
set_option maxHeartbeats 1000000 in
theorem node_any (A B : List UInt8) (hA : A.length = 32) (hB : B.length = 32) (w : World) (hL : Laid w) :
    Calls Tryd.prog 25 #[.agg (hbs A), .agg (hbs B)] w fun e w' => e = .returned (.agg (hbs (Sh (1 :: (A ++ B))))) ∧ Nw w w' := by
  have HL : Hid (Laid w) := hL
  clear hL
  obtain ⟨a, ha⟩ : ∃ a, a = hbs A := ⟨_, rfl⟩
  obtain ⟨b, hb⟩ : ∃ b, b = hbs B := ⟨_, rfl⟩
  rw [← ha, ← hb]
  have Ha : Hid (a = hbs A) := ha
  have Hb : Hid (b = hbs B) := hb
  have HA : Hid (A.length = 32) := hA
  have HB : Hid (B.length = 32) := hB
  have has : a.size = 32 := by rw [ha, hbs_size, hA]
  have hbs' : b.size = 32 := by rw [hb, hbs_size, hB]
  clear ha hb hA hB
  go_enter Tryd.func25, Tryd.ntmps25
  go_wp2
  rw [z32_h]
  obtain ⟨w1, hw1⟩ : ∃ w1, w1 = ((w.alloc (.cells a 24)).alloc (.cells b 24)).alloc (.cells z32 24) := ⟨_, rfl⟩
  have n1 : Nw w w1 := by rw [hw1]; exact (((Fr.refl _ _).alloc _).alloc _).alloc _
  have hs1 : w1.heap.size = w.heap.size + 1 + 1 + 1 := by rw [hw1]; simp
  have ja : w1.heap[w.heap.size]? = some (.cells a 24) := by rw [hw1]; exact (Below.heap_alloc _ _ _ (by simp; omega)).trans ((Below.heap_alloc _ _ _ (by simp)).trans (heap_new w _))
  have jb : w1.heap[w.heap.size + 1]? = some (.cells b 24) := by rw [hw1]; exact (Below.heap_alloc _ _ _ (by simp)).trans (heap_next w _ _)
  have jz : w1.heap[w.heap.size + 1 + 1]? = some (.cells z32 24) := by
    rw [hw1]
    have := heap_next (w.alloc (.cells a 24)) (.cells b 24) (.cells z32 24)
    rw [World.size_alloc] at this
    exact this
  rw [← hw1]
  clear hw1
  have HS : Hid (w1.heap.size = w.heap.size + 1 + 1 + 1) := hs1
  clear hs1
  have hk : Hid (∀ W, Fr (fun k => k = w.heap.size + 1 + 1) w1 W → (convert 87 9 (.slice (some ⟨w.heap.size, 0, none⟩) 32 32)).run Tryd.prog W = .ok (.string ⟨A.toArray⟩) W ∧ (convert 87 9 (.slice (some ⟨w.heap.size + 1, 0, none⟩) 32 32)).run Tryd.prog W = .ok (.string ⟨B.toArray⟩) W) := fun W hW => by
    refine ⟨conv_h (t := 24) (f := (0, 0)) ?_ HA.out, conv_h (t := 24) (f := (0, 0)) ?_ HB.out⟩
    · rw [← Ha.out]; exact (hW.block _ (heap_lt ja) (by omega)).trans ja
    · rw [← Hb.out]; exact (hW.block _ (heap_lt jb) (by omega)).trans jb
  refine wp_region_held_drew (S := fun W => (convert 87 9 (.slice (some ⟨w.heap.size, 0, none⟩) 32 32)).run Tryd.prog W = .ok (.string ⟨A.toArray⟩) W ∧ (convert 87 9 (.slice (some ⟨w.heap.size + 1, 0, none⟩) 32 32)).run Tryd.prog W = .ok (.string ⟨B.toArray⟩) W) (by kernel_rfl) (hk.out _ (Fr.refl _ _).drew) ?_
  intro hS0
  refine wpAnyH_take (i := 0) (v := .slice (some ⟨w.heap.size, 0, none⟩) 32 32) rfl (by kernel_rfl) (by kernel_rfl) (by kernel_rfl) (fun _ _ _ h => h) (Or.inl ⟨by rfl, by intro w _; go_simp⟩) hS0 ?_
  try simp only [Act.put, List.setIfInBounds_toArray, List.set_cons_zero, List.set_cons_succ]
  refine wpAnyH_take (i := 1) (v := .string ⟨A.toArray⟩) rfl (by kernel_rfl) (by kernel_rfl) (by kernel_rfl) (fun _ _ _ h => h) (Or.inl ⟨by rfl, by intro w hw; have hc := hw.1; go_simp⟩) hS0 ?_
  try simp only [Act.put, List.setIfInBounds_toArray, List.set_cons_zero, List.set_cons_succ]
  refine wpAnyH_take (i := 2) (v := .slice (some ⟨w.heap.size + 1, 0, none⟩) 32 32) rfl (by kernel_rfl) (by kernel_rfl) (by kernel_rfl) (fun _ _ _ h => h) (Or.inl ⟨by rfl, by intro w _; go_simp⟩) hS0 ?_
  try simp only [Act.put, List.setIfInBounds_toArray, List.set_cons_zero, List.set_cons_succ]
  refine wpAnyH_take (i := 3) (v := .string ⟨B.toArray⟩) rfl (by kernel_rfl) (by kernel_rfl) (by kernel_rfl) (fun _ _ _ h => h) (Or.inl ⟨by rfl, by intro w hw; have hc := hw.2; go_simp⟩) hS0 ?_
  try simp only [Act.put, List.setIfInBounds_toArray, List.set_cons_zero, List.set_cons_succ]
  refine wpAnyH_ready (rs := [4]) (by kernel_rfl) (by simp) ?_
  refine AllReadyH.cons rfl (fun K' hK => ?_) AllReadyH.nil
  go_simp
  have hst : Strs (w1.alloc (.cells #[.string ⟨#[1]⟩, .string ⟨A.toArray⟩, .string ⟨B.toArray⟩] 9)).drew (some ⟨w1.heap.size, 0, none⟩) [⟨#[1]⟩, ⟨A.toArray⟩, ⟨B.toArray⟩] := (strs3 w1 _ _ _).nw (Fr.refl _ _).drew
  have n2 : Nw w1 (w1.alloc (.cells #[.string ⟨#[1]⟩, .string ⟨A.toArray⟩, .string ⟨B.toArray⟩] 9)).drew := ((Fr.refl _ _).alloc _).drew
  refine hK.out _ _ (hk.out _ (n2.mono (fun _ _ f => f.elim))) (fun hS1 => ?_)
  try simp only [Act.put, List.setIfInBounds_toArray, List.set_cons_zero, List.set_cons_succ]
  refine wpAnyH_ready (rs := [5]) (by kernel_rfl) (by simp) ?_
  refine AllReadyH.cons rfl (fun K' hK => ?_) AllReadyH.nil
  have hct : cat [⟨#[1]⟩, ⟨A.toArray⟩, ⟨B.toArray⟩] = 1 :: (A ++ B) := by simp [cat]
  have hcl : (cat [⟨#[1]⟩, ⟨A.toArray⟩, ⟨B.toArray⟩]).length < 576460752303423488 := by rw [hct, List.length_cons, List.length_append, HA.out, HB.out]; decide
  have q3 := sumh_any (some ⟨w1.heap.size, 0, none⟩) 3 [⟨#[1]⟩, ⟨A.toArray⟩, ⟨B.toArray⟩] _ hst (HL.out.nw (n1.tr n2)) hcl (by simp)
  rw [hct] at q3
  obtain ⟨R, hR⟩ : ∃ R, R = Sh (1 :: (A ++ B)) := ⟨_, rfl⟩
  rw [← hR] at q3
  have HR : Hid (R = Sh (1 :: (A ++ B))) := hR
  have hRl : (hbs R).size = 32 := by rw [hbs_size, hR, Sh_len]
  clear hR hct hcl
  go_simp
  go_wp2_with (go_at_call 44; refine q3.mono ?_; rintro e3 w3 ⟨rfl, n3⟩)
  have n3' : Nw w1 w3 := n2.tr n3
  refine hK.out _ _ (hk.out _ (n3'.mono (fun _ _ f => f.elim))) (fun hS2 => ?_)
  try simp only [Act.put, List.setIfInBounds_toArray, List.set_cons_zero, List.set_cons_succ]
  refine wpAnyH_ready (rs := [6]) (by kernel_rfl) (by simp) ?_
  refine AllReadyH.cons rfl (fun K' hK => ?_) AllReadyH.nil
  have jz3 := (n3'.block _ (heap_lt jz) (fun f => f)).trans jz
  refine step_store_agg rfl (.tmp 4) (.tmp 10) 24 32 rfl Tryd.sizeOf24 (w.heap.size + 1 + 1) 0 rfl z32 24 jz3 (hbs R) rfl hRl (hbs_one _) (by decide) (hbs R) (by rw [z32_drop]; simp) ?_
  intro w4 j4 f4 z4
  refine hK.out _ _ (hk.out w4 ((n3'.mono (fun _ _ f => f.elim)).trans f4 (fun _ _ q => q))) (fun hS3 => ?_)
  refine wpAnyH_done (by kernel_rfl) ?_ _
  go_wp2_with fail
  exact bodyPost_ret (results_cell Tryd.results25 Tryd.isAgg24 Tryd.sizeOf24 rfl j4 hRl) rfl ⟨by rw [HR.out], (n1.tr n3').trans f4 (fun k hk q => by omega)⟩

end Go.Proofs.YtaeocbdphfkflaaDoor
