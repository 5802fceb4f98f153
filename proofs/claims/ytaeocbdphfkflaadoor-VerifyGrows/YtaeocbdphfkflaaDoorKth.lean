/- A Book that keeps rows of hashes: marks. -/
import Derived.Test.YtaeocbdphfkflaaDoorGHq
import Derived.Test.YtaeocbdphfkflaaDoorCgx
namespace Go.Proofs.YtaeocbdphfkflaaDoor
namespace HB
open Go.RowKit
set_option linter.unusedVariables false
set_option linter.unusedSimpArgs false

/-- The mark of a number. -/
def mk (m : Nat) : List UInt8 := UInt8.ofNat m :: UInt8.ofNat (m / 256) :: UInt8.ofNat (m / 65536) :: (List.replicate 28 0 ++ [201])
theorem mk_len (m : Nat) : (mk m).length = 32 := by simp [mk]
theorem u8c (m : Nat) : Value.int .u8 ((m : Int) % 256) = .int .u8 ((UInt8.ofNat m).toNat : Nat) := by
  rw [UInt8.toNat_ofNat']; simp
theorem mk_lit (m : Nat) : (#[.int .u8 ((m : Int) % 256), .int .u8 ((m : Int) / 256 % 256), .int .u8 ((m : Int) / 65536 % 256), .int .u8 0, .int .u8 0, .int .u8 0, .int .u8 0, .int .u8 0, .int .u8 0, .int .u8 0, .int .u8 0, .int .u8 0, .int .u8 0, .int .u8 0, .int .u8 0, .int .u8 0, .int .u8 0, .int .u8 0, .int .u8 0, .int .u8 0, .int .u8 0, .int .u8 0, .int .u8 0, .int .u8 0, .int .u8 0, .int .u8 0, .int .u8 0, .int .u8 0, .int .u8 0, .int .u8 0, .int .u8 0, .int .u8 201] : Array Value) = hbs (mk m) := by
  have e1 : ((m : Int) / 256) = ((m / 256 : Nat) : Int) := by omega
  have e2 : ((m : Int) / 65536) = ((m / 65536 : Nat) : Int) := by omega
  rw [e1, e2, u8c, u8c, u8c]
  rfl
set_option maxRecDepth 100000 in
set_option maxHeartbeats 1000000 in
theorem mark_any (m : Nat) (hm : m < 9223372036854775807) (w : World) : Calls Tryd.prog 29 #[.int .i64 (m : Int)] w fun e w' => e = .returned (.agg (hbs (mk m))) ∧ Nw w w' := by
  have hs : (hbs (mk m)).size = 32 := by rw [hbs_size, mk_len]
  have hl := mk_lit m
  have HL : Hid _ := hl
  clear hl
  go_enter Tryd.func29, Tryd.ntmps29
  go_wp2_with (refine wp_store_agg rfl (.tmp 2) (.tmp 11) 24 32 rfl Tryd.sizeOf24 w.heap.size 0 rfl _ 24 (heap_new _ _) (hbs (mk m)) (congrArg Value.agg HL.out) hs (hbs_one _) (by decide) (hbs (mk m)) (by simp) ?_; intro w3 j3 f3 _)
  exact bodyPost_ret (results_cell Tryd.results29 Tryd.isAgg24 Tryd.sizeOf24 rfl j3 hs) rfl ⟨rfl, (nwa w _).trans f3 (fun k hk q => by omega)⟩
/-- A hash literal that is not written out, where the order is the text's. -/
theorem wpl_lit {w : World} {ops : Array Oper} {rest : List Oper} {o : Oper} {a : Act} {Q : Exit → Act → World → Prop} (hwant : Region.wanted o (yielded ops a.tmps) = true) (v : Value) (hr : (execOp a.eval o).run Tryd.prog w = .ok (.value v) w)
    (h : wpList Tryd.prog ops Q rest (a.put o.dst v) w) : wpList Tryd.prog ops Q (o :: rest) a w := by
  refine wpList_step fun K hK => ?_
  rw [if_pos hwant]
  unfold Oper.wp
  rw [hr]
  exact hK _ _ h
theorem wpl_eqm {w : World} {ops : Array Oper} {rest : List Oper} {o : Oper} {a : Act} {Q : Exit → Act → World → Prop} (hwant : Region.wanted o (yielded ops a.tmps) = true) (x y : Operand) (ho : o.op = .binOp .eql 24 x y 24) (A : List UInt8) (hA : A.length = 32) (V : Array Value) (hV : V = hbs A) (hx : a.eval x = .agg (hbs A)) (hy : a.eval y = .agg V)
    (h : wpList Tryd.prog ops Q rest (a.put o.dst (.bool true)) w) : wpList Tryd.prog ops Q (o :: rest) a w := wpl_eql hwant x y ho A hA hx (by rw [hy, hV]) h
set_option maxRecDepth 100000 in
set_option maxHeartbeats 1000000 in
theorem is_any (m : Nat) (hm : m < 9223372036854775807) (w : World) : Calls Tryd.prog 36 #[.agg (hbs (mk m)), .int .i64 (m : Int)] w fun e w' => e = .returned (.bool true) ∧ Nw w w' := by
  have hs : (hbs (mk m)).size = 32 := by rw [hbs_size, mk_len]
  have HL : Hid _ := mk_lit m
  have HM := show Hid _ from mk_len m
  have e0 : (w.alloc (.cells (hbs (mk m)) 24)).heap[w.heap.size]? = some (.cells (hbs (mk m)) 24) := heap_new _ _
  have E0 : Hid (∀ j, j < 32 → (w.alloc (.cells (hbs (mk m)) 24)).cell? ⟨w.heap.size, 0 + j, none⟩ = (hbs (mk m))[j]?) := hash_cells e0
  clear e0
  go_enter Tryd.func36, Tryd.ntmps36
  go_wp2_with first
    | (refine wpl_load rfl (.tmp 2) rfl w.heap.size 0 rfl (mk m) HM.out E0.out ?_)
    | (refine wpl_eqm rfl (.tmp 5) (.tmp 14) rfl (mk m) HM.out _ HL.out rfl rfl ?_)
  go_ret
  exact ⟨rfl, nwa w _⟩
end HB
end Go.Proofs.YtaeocbdphfkflaaDoor
namespace Go.Proofs.YtaeocbdphfkflaaDoor
open Go.RowKit
set_option linter.unusedVariables false
set_option linter.unusedSimpArgs false

theorem hsc_takeT : ∀ (l : List (List UInt8)), (∀ x ∈ l, x.length = 32) → ∀ k, (hsc l).take (k * 32) = hsc (l.take k)
  | [], _, k => by simp [hsc]
  | t :: r, h, 0 => by simp [hsc]
  | t :: r, h, k + 1 => by
    have ht := h t (by simp)
    have ih := hsc_takeT r (fun x hx => h x (by simp [hx])) k
    simp only [hsc, List.flatMap_cons, List.take_succ_cons] at ih ⊢
    rw [show (k + 1) * 32 = (bc t).length + k * 32 by rw [bc_len, ht]; omega, List.take_length_add_append, ih]
theorem hsc_dropT : ∀ (l : List (List UInt8)), (∀ x ∈ l, x.length = 32) → ∀ k, (hsc l).drop (k * 32) = hsc (l.drop k)
  | [], _, k => by simp [hsc]
  | t :: r, h, 0 => by simp [hsc]
  | t :: r, h, k + 1 => by
    have ht := h t (by simp)
    have ih := hsc_dropT r (fun x hx => h x (by simp [hx])) k
    simp only [hsc, List.flatMap_cons, List.drop_succ_cons] at ih ⊢
    rw [show (k + 1) * 32 = (bc t).length + k * 32 by rw [bc_len, ht]; omega, List.drop_length_add_append, ih]
theorem hsc_setT (l : List (List UInt8)) (h : ∀ x ∈ l, x.length = 32) (k : Nat) (hk : k < l.length) (y : List UInt8) : hsc (l.set k y) = (hsc l).take (k * 32) ++ bc y ++ (hsc l).drop ((k + 1) * 32) := by
  rw [hsc_takeT l h, hsc_dropT l h, List.set_eq_take_append_cons_drop, if_pos hk, hsc_app]
  simp [hsc]
theorem take_midT {c b : List Value} {a n : Nat} (ha : a + 32 ≤ n) (hc : a ≤ c.length) (hb : b.length = 32) : (c.take a ++ b ++ c.drop (a + 32)).take n = c.take a ++ b ++ (c.drop (a + 32)).take (n - (a + 32)) := by
  have h1 : (c.take a ++ b).length = a + 32 := by simp [hb, Nat.min_eq_left hc]
  rw [List.take_append, h1, List.take_of_length_le (l := c.take a ++ b) (by omega)]
/-- One hash of a row of one's own is written over. -/
theorem own_setT {w : World} {base g n cap : Nat} {xs : List (List UInt8)} (h32 : ∀ x ∈ xs, x.length = 32) (hn : xs.length = n) (h : w.ownsRow base 24 32 (.slice (some ⟨g, 0, none⟩) n cap) n (hsc xs)) (k : Nat) (hk : k < n) (y : List UInt8) (hy : y.length = 32) :
    ∃ cur new : Array Value, w.heap[g]? = some (.cells cur 24 (0, 0)) ∧ k * 32 + 32 ≤ cur.size ∧ new.toList = cur.toList.take (k * 32) ++ (hbs y).toList ++ cur.toList.drop (k * 32 + 32) ∧ ∀ w' : World, w'.heap[g]? = some (.cells new 24 (0, 0)) → w'.ownsRow base 24 32 (.slice (some ⟨g, 0, none⟩) n cap) n (hsc (xs.set k y)) := by
  obtain ⟨h1, h2⟩ := h
  rcases h2 with ⟨h2, _⟩ | ⟨g', cap', cur, hv, hb, hh, h3, h4, h5, h6⟩
  · cases h2
  · cases hv
    have hkc : k * 32 + 32 ≤ cur.size := by
      rw [h5]
      have : (k + 1) * 32 ≤ cap * 32 := Nat.mul_le_mul_right _ (by omega)
      omega
    refine ⟨cur, (cur.toList.take (k * 32) ++ (hbs y).toList ++ cur.toList.drop (k * 32 + 32)).toArray, hh, hkc, rfl, fun w' hw => ⟨?_, .inr ⟨g, cap, _, rfl, hb, hw, h3, h4, ?_, ?_⟩⟩⟩
    · rw [hsc_len _ (fun x hx => by rcases List.mem_or_eq_of_mem_set hx with hx | rfl; exact h32 x hx; exact hy), List.length_set, hn]
    · simp [hbs_size, hy]
      omega
    · rw [hsc_setT xs h32 k (by omega) y, ← h6]
      have e1 : (k + 1) * 32 ≤ n * 32 := Nat.mul_le_mul_right _ (by omega)
      have hb : (hbs y).toList = bc y := by simp [hbs]
      rw [hb, List.take_take, Nat.min_eq_left (by omega), List.drop_take]
      rw [take_midT (by omega) (by simp; omega) (by rw [bc_len, hy])]
      have e3 : (k + 1) * 32 = k * 32 + 32 := by omega
      rw [e3]
/-- The head of a row of one's own. -/
theorem own_headT {w : World} {base g n m cap : Nat} {xs : List (List UInt8)} (h32 : ∀ x ∈ xs, x.length = 32) (h : w.ownsRow base 24 32 (.slice (some ⟨g, 0, none⟩) n cap) n (hsc xs)) (hm : m ≤ n) : w.ownsRow base 24 32 (.slice (some ⟨g, 0, none⟩) m cap) m (hsc (xs.take m)) := by
  obtain ⟨h1, h2⟩ := h
  rcases h2 with ⟨h2, _⟩ | ⟨g', cap', cur, hv, hb, hh, h3, h4, h5, h6⟩
  · cases h2
  · cases hv
    have hl : xs.length = n := by rw [hsc_len _ h32] at h1; omega
    refine ⟨?_, .inr ⟨g, cap, cur, rfl, hb, hh, by omega, h4, h5, ?_⟩⟩
    · rw [hsc_len _ (fun x hx => h32 x (List.mem_of_mem_take hx)), List.length_take, hl, Nat.min_eq_left hm]
    · rw [← hsc_takeT xs h32, ← h6, List.take_take, Nat.min_eq_left (Nat.mul_le_mul_right _ hm)]
theorem made_hsc (n : Nat) : madeCells (Value.agg z32).cells (n * 32) = (hsc (List.replicate n zh)).toArray := by
  have hz : ∀ x ∈ List.replicate n zh, x.length = 32 := fun x hx => by rw [List.eq_of_mem_replicate hx]; simp
  apply Array.ext
  · rw [size_madeCells]; simp [hsc_len _ hz]
  · intro j h1 h2
    rw [size_madeCells] at h1
    have hk : j / 32 < n := by omega
    have q := hsc_get _ hz (j / 32) zh (by simp [hk]) (j % 32) (Nat.mod_lt _ (by decide))
    rw [show j / 32 * 32 + j % 32 = j by omega] at q
    have hb : (bc zh)[j % 32]? = some (.int .u8 0) := by
      rw [bc, List.getElem?_map, List.getElem?_replicate, if_pos (Nat.mod_lt _ (by decide))]; rfl
    rw [hb] at q
    have e1 : (hsc (List.replicate n zh)).toArray[j] = .int .u8 0 := by
      have := List.getElem?_eq_some_iff.1 q
      obtain ⟨_, this⟩ := this
      simpa using this
    rw [e1]
    simp only [madeCells, Array.getElem_map, Array.getElem_range, Value.cells]
    have : z32.size = 32 := z32_size
    rw [this]
    have hg : z32[j % 32]! = .int .u8 0 := by
      rw [getElem!_pos z32 (j % 32) (by rw [this]; exact Nat.mod_lt _ (by decide))]
      simp [z32]
    exact hg
theorem make_hsc (n : Nat) (m : Int) (hm : m = (n : Int)) (hl : n ≤ 1048577) (w : World) : (Instr.makeSlice 25 (.int .i64 m) (.int .i64 m)).run Tryd.prog w = .ok (.slice (some ⟨w.heap.size, 0, none⟩) n n) (w.alloc (.cells (hsc (List.replicate n zh)).toArray 24)) := by
  obtain ⟨i, hi, hz0, hz1, hz2⟩ := info_parts infoHs
  subst hm
  rw [run_make w 25 24 i (.agg z32) Tryd.underlying25 hi hz0 .i64 .i64 _ _ (by omega) (by omega) (by rw [hz2]; omega) (by omega), hz1]
  rw [Int.toNat_natCast, made_hsc]
theorem own_made (n : Nat) (hl : n ≤ 1048577) (w : World) : (w.alloc (.cells (hsc (List.replicate n zh)).toArray 24)).ownsRow w.heap.size 24 32 (.slice (some ⟨w.heap.size, 0, none⟩) n n) n (hsc (List.replicate n zh)) := by
  have hz : ∀ x ∈ List.replicate n zh, x.length = 32 := fun x hx => by rw [List.eq_of_mem_replicate hx]; simp
  have h1 : (hsc (List.replicate n zh)).length = n * 32 := by rw [hsc_len _ hz]; simp
  exact ⟨h1, .inr ⟨w.heap.size, n, _, rfl, Nat.le_refl _, heap_new _ _, Nat.le_refl _, by unfold maxLen; omega, by simp [h1], by rw [← h1]; simp⟩⟩
theorem Hss.atT {w : World} {ad : Option Addr} {n c : Nat} {L : List (List UInt8)} (h : Hss w (.slice ad n c) L) {k : Nat} {x : List UInt8} (hk : L[k]? = some x) : ∃ p off, ad = some ⟨p, off, none⟩ ∧ ∀ j, j < 32 → w.cell? ⟨p, off + k * 32 + j, none⟩ = (hbs x)[j]? := by
  obtain ⟨ad0, c0, hv, h⟩ := h
  injection hv with h1 h2 h3
  subst h1
  exact h k x hk
set_option maxRecDepth 100000 in
set_option maxHeartbeats 4000000 in
theorem twinh_any (ad : Option Addr) (c : Nat) (L : List (List UInt8)) (h32 : ∀ x ∈ L, x.length = 32) (w : World) (hs : Hss w (.slice ad L.length c) L) (hl : L.length ≤ 1048576) :
    Calls Tryd.prog 9 #[.slice ad L.length c] w fun e w' => e = .returned (.slice (some ⟨w.heap.size, 0, none⟩) L.length (L.length + 1)) ∧ w'.ownsRow w.heap.size 24 32 (.slice (some ⟨w.heap.size, 0, none⟩) (L.length + 1) (L.length + 1)) (L.length + 1) (hsc (L ++ [HB.mk 7777])) ∧ Nw w w' := by
  obtain ⟨n, hn⟩ : ∃ n, n = L.length := ⟨_, rfl⟩
  have Hn : Hid (L.length = n) := hn.symm
  have HS : Hid (Hss w (.slice ad n c) L) := by rw [hn]; exact hs
  have H32 : Hid (∀ x ∈ L, x.length = 32) := h32
  rw [← hn] at hl ⊢
  clear hn hs h32
  have hmk := make_hsc (n + 1) ((n : Int) + 1) (by omega) (by omega) w
  have QM : Hid (∀ W, Calls Tryd.prog 29 #[.int .i64 7777] W fun e w' => e = .returned (.agg (hbs (HB.mk 7777))) ∧ Nw W w') := fun W => HB.mark_any 7777 (by decide) W
  obtain ⟨Z, hZ⟩ : ∃ Z, Z = HB.mk 7777 := ⟨_, rfl⟩
  rw [← hZ] at QM ⊢
  have Z32 : Hid (Z.length = 32) := by rw [hZ]; exact HB.mk_len _
  have hZs : (hbs Z).size = 32 := by rw [hbs_size, Z32.out]
  have OM : Hid _ := own_made (n + 1) (by omega) w
  obtain ⟨w1, hw1⟩ : ∃ w1, w1 = w.alloc (.cells (hsc (List.replicate (n + 1) zh)).toArray 24) := ⟨_, rfl⟩
  rw [← hw1] at hmk OM
  have N1 : Hid (Nw w w1) := by rw [hw1]; exact nwa w _
  obtain ⟨g, hg⟩ : ∃ g, g = w.heap.size := ⟨_, rfl⟩
  rw [← hg] at hmk OM ⊢
  have HG : Hid (g = w.heap.size) := hg
  clear hZ hw1 hg
  go_enter Tryd.func9, Tryd.ntmps9
  go_wp2
  go_loopw [4] (fun i wr => ∃ (k : Nat) (xs : List (List UInt8)), k ≤ n ∧ i = .int .i64 k ∧ xs.length = n + 1 ∧ (∀ x ∈ xs, x.length = 32) ∧ (∀ q, q < k → xs[q]? = L[q]?) ∧ wr.ownsRow g 24 32 (.slice (some ⟨g, 0, none⟩) (n + 1) (n + 1)) (n + 1) (hsc xs) ∧ Nw w wr) (fun i _ => n - (intOf i).toNat)
  case atStart => exact ⟨0, _, by omega, rfl, by simp, fun x hx => by rw [List.eq_of_mem_replicate hx]; simp, fun q hq => by omega, OM.out, N1.out⟩
  case round =>
    obtain ⟨k, xs, hk, rfl, hxl, hx32, hxq, hown, hnw⟩ := hrel
    have HXL : Hid (xs.length = n + 1) := hxl
    have HX32 : Hid (∀ x ∈ xs, x.length = 32) := hx32
    have HXQ : Hid (∀ q, q < k → xs[q]? = L[q]?) := hxq
    have HOW : Hid (wr.ownsRow g 24 32 (.slice (some ⟨g, 0, none⟩) (n + 1) (n + 1)) (n + 1) (hsc xs)) := hown
    have HNW : Hid (Nw w wr) := hnw
    clear hxl hx32 hxq hown hnw
    by_cases hlt : k < n
    · obtain ⟨x, hx⟩ : ∃ x, L[k]? = some x := ⟨_, List.getElem?_eq_getElem (by rw [Hn.out]; exact hlt)⟩
      have X32 : Hid (x.length = 32) := H32.out x (List.mem_of_getElem? hx)
      have HX : Hid (L[k]? = some x) := hx
      have hxs : (hbs x).size = 32 := by rw [hbs_size, X32.out]
      obtain ⟨p, off, rfl, hc⟩ := (HS.out.nw H32.out HNW.out).atT hx
      have HC : Hid (∀ j, j < 32 → wr.cell? ⟨p, off + k * 32 + j, none⟩ = (hbs x)[j]?) := hc
      obtain ⟨cur, new, g1, g2, g3, g4⟩ := own_setT HX32.out HXL.out HOW.out k (by omega) x X32.out
      have G1 : Hid (wr.heap[g]? = some (.cells cur 24 (0, 0))) := g1
      have G2 : Hid (k * 32 + 32 ≤ cur.size) := g2
      have G3 : Hid (new.toList = cur.toList.take (k * 32) ++ (hbs x).toList ++ cur.toList.drop (k * 32 + 32)) := g3
      have G4 : Hid (∀ w' : World, w'.heap[g]? = some (.cells new 24 (0, 0)) → w'.ownsRow g 24 32 (.slice (some ⟨g, 0, none⟩) (n + 1) (n + 1)) (n + 1) (hsc (xs.set k x))) := g4
      clear hx hc g1 g2 g3 g4
      have hki : (k : Int) < (n : Int) := by omega
      go_wp2_with first
        | refine wpl_load rfl (.tmp 19) rfl p (off + k * 32) rfl x X32.out HC.out ?_
        | (refine wp_store_agg rfl (.tmp 21) (.tmp 20) 24 32 rfl Tryd.sizeOf24 g (k * 32) rfl cur 24 G1.out (hbs x) rfl hxs (hbs_one _) G2.out new G3.out ?_; intro w3 j3 f3 z3; clear z3)
      refine ⟨⟨k + 1, xs.set k x, by omega, by go_num, by rw [List.length_set]; exact HXL.out, fun y hy => ?_, fun q hq => ?_, G4.out w3 j3, HNW.out.trans f3 (fun b hb q => by have := HG.out; omega)⟩, by simp [intOf]; omega⟩
      · rcases List.mem_or_eq_of_mem_set hy with hy | rfl
        · exact HX32.out y hy
        · exact X32.out
      · by_cases hqk : q = k
        · subst hqk
          rw [List.getElem?_set_self (by rw [HXL.out]; omega), HX.out]
        · rw [List.getElem?_set_ne (by omega)]
          exact HXQ.out q (by omega)
    · obtain rfl : k = n := by omega
      have hki : ¬ (k : Int) < (k : Int) := by omega
      go_wp2_with fail
      refine (QM.out _).mono ?_
      rintro e w3 ⟨rfl, n3⟩
      have O3 : w3.ownsRow g 24 32 (.slice (some ⟨g, 0, none⟩) (k + 1) (k + 1)) (k + 1) (hsc xs) := ownsRow_keep HOW.out (fun q hq => n3.block q (HOW.out.lt q hq).2 (fun f => f))
      obtain ⟨cur, new, g1, g2, g3, g4⟩ := own_setT HX32.out HXL.out O3 k (by omega) Z Z32.out
      have G1 : Hid (w3.heap[g]? = some (.cells cur 24 (0, 0))) := g1
      have G2 : Hid (k * 32 + 32 ≤ cur.size) := g2
      have G3 : Hid (new.toList = cur.toList.take (k * 32) ++ (hbs Z).toList ++ cur.toList.drop (k * 32 + 32)) := g3
      have G4 : Hid (∀ w' : World, w'.heap[g]? = some (.cells new 24 (0, 0)) → w'.ownsRow g 24 32 (.slice (some ⟨g, 0, none⟩) (k + 1) (k + 1)) (k + 1) (hsc (xs.set k Z))) := g4
      have N3 : Hid (Nw w w3) := HNW.out.tr n3
      clear g1 g2 g3 g4 O3 n3
      have hk0 : (k : Int) < (k : Int) + 1 := by omega
      go_wp2_with (refine wp_store_agg rfl (.tmp 26) (.tmp 25) 24 32 rfl Tryd.sizeOf24 g (k * 32) rfl cur 24 G1.out (hbs Z) rfl hZs (hbs_one _) G2.out new G3.out ?_; intro w4 j4 f4 z4; clear z4)
      have e : xs.set k Z = L ++ [Z] := by
        apply List.ext_getElem?
        intro q
        rcases Nat.lt_trichotomy q k with h | h | h
        · rw [List.getElem?_set_ne (by omega), HXQ.out q h, List.getElem?_append_left (by rw [Hn.out]; exact h)]
        · subst h
          rw [List.getElem?_set_self (by rw [HXL.out]; omega), List.getElem?_append_right (by rw [Hn.out]; omega), Hn.out]
          simp
        · rw [List.getElem?_eq_none (by rw [List.length_set, HXL.out]; omega), List.getElem?_eq_none (by rw [List.length_append, Hn.out]; simp; omega)]
      have o4 := G4.out w4 j4
      rw [e] at o4
      go_wp2
      go_ret
      exact ⟨rfl, o4, N3.out.trans f4 (fun b hb q => by have := HG.out; omega)⟩
end Go.Proofs.YtaeocbdphfkflaaDoor
