/- tile: texts laid into the room of a row of bytes. -/
import Derived.Test.YtjkhcplnedcmeaaGreatDoorUg2
import Derived.Test.YtjkhcplnedcmeaaGreatDoorHg
import Derived.Test.YtjkhcplnedcmeaaGreatDoorEg
import Derived.Test.YtjkhcplnedcmeaaGreatDoorCg
import Derived.Test.YtjkhcplnedcmeaaGreatDoorSh
import Derived.Lib.Bytealg
import Derived.Test.YtjkhcplnedcmeaaGreatDoorAg
import Derived.Lib.AppendIntMem
import Derived.BigCall
import Derived.Laws.MakeOwn
import Derived.Laws.IdiomStrings
import Derived.Lib.IndexMore
import Derived.OwnWalk
import Derived.Lib.Bytes
namespace Go.Proofs.YtjkhcplnedcmeaaGreatDoor
open Go.RowKit
set_option linter.unusedVariables false
set_option linter.unusedSimpArgs false
/-- A row of bytes with room in block g: T stands at its beginning. -/
def Lay (w : World) (g cap : Nat) (T : List UInt8) : Prop := ∃ cur : Array Value, w.heap[g]? = some (.cells cur 5 (0, 0)) ∧ cur.size = cap ∧ cur.toList.take T.length = bc T ∧ T.length ≤ cap
theorem Lay.fr {S : Nat → Prop} {w w' : World} {g cap : Nat} {T : List UInt8} (h : Lay w g cap T) (f : Fr S w w') (hg : ¬ S g) : Lay w' g cap T := by
  obtain ⟨cur, h1, h2⟩ := h
  exact ⟨cur, (f.block _ (heap_lt h1) hg).trans h1, h2⟩
theorem Lay.lt {w : World} {g cap : Nat} {T : List UInt8} (h : Lay w g cap T) : g < w.heap.size := by
  obtain ⟨cur, h1, h2⟩ := h
  exact heap_lt h1
theorem wpl_copy_str {P : Program} {w : World} {ops : Array Oper} {rest : List Oper} {o : Oper} {a : Act} {Q : Exit → Act → World → Prop} (hgd : o.guard = none) (d s : Operand) (dT sT : TypeId)
    (ho : o.op = .call { callee := .builtin .copy, args := #[d, s], argTypes := #[dT, sT] }) (elem : TypeId) (hu : P.underlying dT = some (.slice elem)) (hsz : (P.info? elem).map (·.size) = some 1)
    (g off dLen dCap : Nat) (x : ByteArray) (hd : a.eval d = .slice (some ⟨g, off, none⟩) dLen dCap) (hs : a.eval s = .string x)
    (cur : Array Value) (t : TypeId) (hg : w.heap[g]? = some (.cells cur t (0, 0))) (c : List UInt8) (hc : c = x.data.toList.take (Nat.min x.size dLen)) (k : Nat) (hk : Nat.min x.size dLen = k) (hfit : off + c.length ≤ cur.size)
    (new : Array Value) (hnew : new.toList = cur.toList.take off ++ bc c ++ cur.toList.drop (off + c.length))
    (h : ∀ w', w'.heap[g]? = some (.cells new t (0, 0)) → Fr (fun k => k = g) w w' → wpList P ops Q rest (a.put o.dst (.int .i64 (k : Int))) w') : wpList P ops Q (o :: rest) a w := by
  refine wpList_step fun K hK => ?_
  exact step_copy_str hgd d s dT sT ho elem hu hsz g off dLen dCap x hd hs cur t hg c hc k hk hfit new hnew (fun w' h1 h2 => hK _ _ (h w' h1 h2))
theorem bytes_len (x : ByteArray) : x.data.toList.length = x.size := by rw [Array.length_toList]; rfl
theorem lay_put {w' : World} {g cap : Nat} {T U : List UInt8} {cur new : Array Value} (hc : cur.size = cap) (ht : cur.toList.take T.length = bc T) (hfit : T.length + U.length ≤ cap) (hnew : new.toList = cur.toList.take T.length ++ bc U ++ cur.toList.drop (T.length + U.length)) (h : w'.heap[g]? = some (.cells new 5 (0, 0))) : Lay w' g cap (T ++ U) := by
  have hl : new.toList.length = cap := by
    rw [hnew]
    simp only [List.length_append, List.length_take, List.length_drop, bc_len, Array.length_toList, hc]
    omega
  refine ⟨new, h, by rw [← hl]; simp, ?_, by simp; omega⟩
  rw [hnew, ht, ← bc_app, List.take_append_of_le_length (by rw [bc_len]; exact Nat.le_refl _), List.take_of_length_le (by rw [bc_len]; exact Nat.le_refl _)]
theorem fr_cell {S : Nat → Prop} {w w' : World} (f : Fr S w w') {p : Addr} {v : Value} (h : w.cell? p = some v) (hs : ¬ S p.block) : w'.cell? p = some v := by
  refine (f.cell ?_ hs).trans h
  by_cases hl : p.block < w.heap.size
  · exact hl
  · exfalso
    have : w.heap[p.block]? = none := Array.getElem?_eq_none (by omega)
    simp [World.cell?, this] at h
set_option maxRecDepth 100000 in
set_option maxHeartbeats 2000000 in
theorem lay_any (g cap c : Nat) (hcap : cap ≤ 1000000) (T : List UInt8) (p : Option Addr) (ss : List ByteArray) (w : World) (hT : Lay w g cap T) (hs : Strs w p ss) (hp : ∀ a, p = some a → a.block ≠ g) (hfit : T.length + (cat ss).length ≤ cap) (hss : ss.length ≤ 1000000) (hne : ∀ x ∈ ss, x.size ≠ 0) :
    Calls Tryz.prog 136 #[.slice (some ⟨g, 0, none⟩) T.length cap, .slice p ss.length c] w fun e w' => e = .returned (.slice (some ⟨g, 0, none⟩) (T ++ cat ss).length cap) ∧ Lay w' g cap (T ++ cat ss) ∧ Fr (fun k => k = g) w w' := by
  have HT : Hid (Lay w g cap T) := hT
  have HS : Hid (Strs w p ss) := hs
  have HP : Hid (∀ a, p = some a → a.block ≠ g) := hp
  have HF : Hid (T.length + (cat ss).length ≤ cap) := hfit
  have HNE : Hid (∀ x ∈ ss, x.size ≠ 0) := hne
  obtain ⟨m, hm⟩ : ∃ m, m = ss.length := ⟨_, rfl⟩
  have HM : Hid (ss.length = m) := hm.symm
  rw [← hm] at hss ⊢
  obtain ⟨t0, ht0⟩ : ∃ t, t = T.length := ⟨_, rfl⟩
  have HT0 : Hid (T.length = t0) := ht0.symm
  have ht1 : t0 ≤ cap := by omega
  rw [← ht0]
  clear hT hs hp hfit hm ht0 hne
  go_enter Tryz.func136, Tryz.ntmps136
  go_wp2
  go_loopw [0, 11] (fun v i wr => ∃ (k n : Nat) (U : List UInt8), k ≤ m ∧ U = T ++ cat (ss.take k) ∧ n = U.length ∧ i = .int .i64 (k : Int) ∧ v = .slice (some ⟨g, 0, none⟩) n cap ∧ Lay wr g cap U ∧ Fr (fun q => q = g) w wr) (fun _ i _ => m - (intOf i).toNat)
  case atStart => exact ⟨0, t0, T, by omega, by simp [cat], HT0.out.symm, rfl, rfl, HT.out, Fr.refl _ _⟩
  case round =>
    obtain ⟨k, n, U, hk, hU, hn, rfl, rfl, hl, hf⟩ := hrel
    have HU : Hid (U = T ++ cat (ss.take k)) := hU
    have HN : Hid (n = U.length) := hn
    have HFR : Hid (Fr (fun q => q = g) w wr) := hf
    have hul : (T ++ cat (ss.take k)).length ≤ (T ++ cat ss).length := by
      have e : cat ss = cat (ss.take k) ++ cat (ss.drop k) := by unfold cat; rw [← List.flatMap_append, List.take_append_drop]
      rw [e]; simp only [List.length_append]; omega
    by_cases hlt : k < m
    · obtain ⟨x, hx⟩ : ∃ x, ss[k]? = some x := ⟨_, List.getElem?_eq_getElem (by rw [HM.out]; exact hlt)⟩
      obtain ⟨q, o, rfl, hc⟩ := HS.out k x hx
      have hqg : q ≠ g := HP.out _ rfl
      have hcell := fr_cell HFR.out hc hqg
      have hki : (k : Int) < (m : Int) := by omega
      have hsp : cat ss = cat (ss.take (k + 1)) ++ cat (ss.drop (k + 1)) := by unfold cat; rw [← List.flatMap_append, List.take_append_drop]
      rw [cat_step ss k x hx] at hsp
      have hnx : n + x.size ≤ cap := by
        have := HF.out
        rw [hsp] at this
        simp only [List.length_append, bytes_len] at this
        rw [hn, hU, List.length_append]
        omega
      obtain ⟨cur, g1, g2, g3, g4⟩ := hl
      have hn0 : n ≤ cap := by omega
      obtain ⟨sz, hsz⟩ : ∃ z, z = x.size := ⟨_, rfl⟩
      have HSZ : Hid (x.size = sz) := hsz.symm
      have hsz0 : sz ≠ 0 := by rw [hsz]; exact HNE.out x (List.mem_of_getElem? hx)
      have hxl : x.data.toList.length = sz := by rw [bytes_len, hsz]
      rw [← hsz] at hnx
      have G1 : Hid (wr.heap[g]? = some (.cells cur 5 (0, 0))) := g1
      obtain ⟨new, hnew⟩ : ∃ new : Array Value, new.toList = cur.toList.take n ++ bc x.data.toList ++ cur.toList.drop (n + x.data.toList.length) := ⟨_, List.toList_toArray⟩
      have HNEW : Hid (new.toList = cur.toList.take n ++ bc x.data.toList ++ cur.toList.drop (n + x.data.toList.length)) := hnew
      have HC : Hid (x.data.toList = x.data.toList.take (Nat.min x.size sz)) := by show _ = _; rw [HSZ.out, show Nat.min sz sz = sz from Nat.min_self sz, List.take_of_length_le (by rw [hxl]; exact Nat.le_refl _)]
      have HK : Hid (Nat.min x.size sz = sz) := by show _ = _; rw [HSZ.out]; exact Nat.min_self sz
      have HFT : Hid (n + x.data.toList.length ≤ cur.size) := by show _ ≤ _; rw [hxl, g2]; exact hnx
      have HL2 : Hid (∀ w', w'.heap[g]? = some (.cells new 5 (0, 0)) → Lay w' g cap (U ++ x.data.toList)) := fun w' h => by
        rw [hn] at hnew
        exact lay_put g2 g3 (by rw [hxl, ← hn]; exact hnx) hnew h
      have HU2 : Hid (U ++ x.data.toList = T ++ cat (ss.take (k + 1))) := by show _ = _; rw [cat_step ss k x hx, hU, List.append_assoc]
      have HXL : Hid ((U ++ x.data.toList).length = n + sz) := by show _ = _; rw [List.length_append, hxl, hn]
      have hsb : sz ≤ cap := by omega
      have hni : (n : Int) + (sz : Int) ≤ (cap : Int) := by omega
      have hsx : (x.size : Int) = (sz : Int) := by rw [hsz]
      clear hsz hxl hnew g1 g2 g3 g4 hU hn hul hsp hx hc hf
      go_wp2_with (refine wpl_copy_str rfl (.tmp 26) (.tmp 27) 168 9 rfl 5 Tryz.underlying168 sz8 g n sz sz x (by go_simp) rfl cur 5 G1.out x.data.toList HC.out sz HK.out HFT.out new HNEW.out ?_; intro w2 j2 f2)
      exact ⟨⟨k + 1, n + sz, U ++ x.data.toList, by omega, HU2.out, HXL.out.symm, by go_num, rfl, HL2.out w2 j2, HFR.out.trans f2 (fun _ _ q => q)⟩, by simp [intOf]; omega⟩
    · obtain rfl : k = m := by omega
      have e : U = T ++ cat ss := by rw [hU, List.take_of_length_le (by rw [HM.out]; exact Nat.le_refl _)]
      have hki : ¬ (k : Int) < (k : Int) := by omega
      have HR : Hid (n = (T ++ cat ss).length ∧ Lay wr g cap (T ++ cat ss)) := ⟨by rw [← e]; exact hn, by rw [← e]; exact hl⟩
      clear hl hU e hn
      go_wp2
      go_ret
      exact ⟨by have h := HR.out.1; rw [List.length_append] at h; rw [← h]; rfl, HR.out.2, hf⟩
end Go.Proofs.YtjkhcplnedcmeaaGreatDoor
namespace Go.Proofs.YtjkhcplnedcmeaaGreatDoor
namespace TX
open Go.RowKit
set_option linter.unusedVariables false
set_option linter.unusedSimpArgs false
def tens : List UInt8 := [48, 49, 50, 51, 52, 53, 54, 55, 56, 57]
def ix (l : List UInt8) (c : UInt8) : Int := Go.Lib.indexByte l c
/-- A number by digits, read on from n, at place p. -/
def undec : Nat → Nat → List UInt8 → Except Nat Nat
  | _, n, [] => .ok n
  | p, n, c :: r => if ix tens c < 0 ∨ (0 < p ∧ n = 0) ∨ 18446744073709551615 < 10 * n + (ix tens c).toNat then .error p else undec (p + 1) (10 * n + (ix tens c).toNat) r
def fromdec (l : List UInt8) : Except Nat Nat := if l = [] then .error 0 else undec 0 0 l

def C (l : List UInt8) (k : Nat) : UInt8 := l.getD k 0
def rd {α : Type} (z : α) (s : ByteArray) (r : Except Nat α) : α × Nat × Option Int := if 1048576 < s.size then (z, 4, none) else match r with
  | .error k => (z, 3, some (k : Int))
  | .ok b => (b, 0, none)
end TX
end Go.Proofs.YtjkhcplnedcmeaaGreatDoor
namespace Go.Proofs.YtjkhcplnedcmeaaGreatDoor
namespace TX
open Go.RowKit Go.Sort
set_option linter.unusedVariables false
set_option linter.unusedSimpArgs false

/-- The powers of ten lie as the library lays them. -/
abbrev Pow (w : World) : Prop := Lib.TabIs Tryz.prog w "internal/strconv.uint64pow10" .u64 Lib.pow10Tab
theorem Pow.fr {w w' : World} (h : Pow w) (hf : Nw w w') : Pow w' := Lib.tabBelow_of_tabIs h w' hf.bel
set_option maxHeartbeats 4000000 in
set_option maxRecDepth 100000 in
theorem format_any (u : Nat) (hu64 : u < 18446744073709551616) (w : World) (htab : Pow w) :
    Calls Tryz.prog 193 #[.int .u64 u, .int .i64 10] w fun e w' => e = .returned (.string ⟨(Lib.decDigits u).toArray⟩) ∧ Nw w w' := by
  by_cases hs : u < 100
  · have hz : (u : Int) < 100 := by omega
    go_enter Tryz.func193, Tryz.ntmps193
    go_wp2_with (go_at_call 212; refine (Tryz.internal_strconv_small u hs _).mono ?_; rintro e w' ⟨rfl, rfl⟩)
    go_ret
    exact ⟨rfl, Fr.refl _ _⟩
  · have hz : ¬ (u : Int) < 100 := by omega
    have hu1 : 1 ≤ u := by omega
    have hnd20 : Lib.nDigits u ≤ 20 := by have := Lib.numDigits_eq u hu1 hu64; split at this <;> omega
    have hb3 : Lib.nDigits u ≤ 24 := by omega
    have hal : Tryz.prog.arrayLen 344 = 24 := by simp [Program.arrayLen, Tryz.underlying344]
    have hsl1 : ∀ W, (Instr.sliceAt 344 (.pointer (some ⟨w.heap.size, 0, none⟩)) none (some (.int .i64 (Lib.nDigits u : Int))) none).run Tryz.prog W = .ok (.slice (some ⟨w.heap.size, 0, none⟩) (Lib.nDigits u) 24) W := fun W => by
      rw [run_sliceAt_array_h W 344 ⟨w.heap.size, 0, none⟩ (by simp [Program.arrayLen, Program.elem, Tryz.underlying344]) .i64 (Lib.nDigits u : Int) (by omega) (by rw [hal]; omega)]
      have he : Tryz.prog.elem 344 = 5 := by simp [Program.elem, Tryz.underlying344]
      rw [he, Tryz.sizeOf5, hal]
      simp [slicedAt, addZ]
    have hH0 := Lib.holds_zero0 w 344 (Lib.nDigits u) (by omega)
    have hfmt := Tryz.internal_strconv_formatBase10 w.heap.size 0 24 u (Array.replicate (Lib.nDigits u) 0) (w.alloc (.cells Lib.zeros24 344)) hH0 (by rw [Array.size_replicate]; exact Lib.lt_pow_nDigits u) hu64 (by rw [Array.size_replicate]; omega)
    rw [Array.size_replicate] at hfmt
    have HH0 := Lib.hid hH0
    clear hH0 hal
    go_enter Tryz.func193, Tryz.ntmps193
    go_wp2_with (go_at_call 213; refine (Tryz.internal_strconv_numDigits u hu1 hu64 _ (Lib.tabIs_alloc htab _)).mono ?_; rintro e w' ⟨rfl, rfl⟩)
    refine hfmt.mono ?_
    rintro e w' ⟨rfl, k, v', dk, rfl, hF⟩
    have hcv : (convert 168 9 (.slice (some ⟨w.heap.size, 0, none⟩) (Lib.nDigits u) 24)).run Tryz.prog ((putRow (fun (b : UInt8) => Value.int .u8 (b.toNat : Int)) (w.alloc (.cells Lib.zeros24 344)) w.heap.size 0 dk).drewN k) = .ok (.string ⟨(Lib.decDigits u).toArray⟩) ((putRow (fun (b : UInt8) => Value.int .u8 (b.toNat : Int)) (w.alloc (.cells Lib.zeros24 344)) w.heap.size 0 dk).drewN k) := by
      have h := run_convert_bytes_back (P := Tryz.prog) ((putRow (fun (b : UInt8) => Value.int .u8 (b.toNat : Int)) (w.alloc (.cells Lib.zeros24 344)) w.heap.size 0 dk).drewN k) 168 9 5 ⟨w.heap.size, 0, none⟩ 24 (Lib.decDigits u) Tryz.underlying168 Tryz.underlying5 Tryz.underlying9 (fun j hj => by
        rw [Lib.row_is_numeral hF j hj, Lib.add_plain, World.cell?_drewN]
        exact cell?_putRow (fun (b : UInt8) => Value.int .u8 (b.toNat : Int)) _ w.heap.size 0 _ dk HH0.out (by rw [hF.size, Array.size_replicate]) j (by rw [hF.size]; rw [Lib.decDigits_length] at hj; exact hj))
      rw [Lib.decDigits_length] at h
      exact h
    obtain ⟨os, eo⟩ := Lib.fin_at w (.cells Lib.zeros24 344) dk k 0
    have EO : Hid _ := eo
    clear eo
    go_wp2
    go_ret
    refine ⟨rfl, ?_⟩
    rw [EO.out]
    exact Fr.ofBelow (Lib.below_grow _ w (Nat.le_refl _) k os)
theorem decimal_any (u : Nat) (hu64 : u < 18446744073709551616) (w : World) (htab : Pow w) :
    Calls Tryz.prog 137 #[.int .u64 u] w fun e w' => e = .returned (.string ⟨(Lib.decDigits u).toArray⟩) ∧ Nw w w' := by
  have q : Calls Tryz.prog 170 #[.int .u64 u, .int .i64 10] w fun e w' => e = .returned (.string ⟨(Lib.decDigits u).toArray⟩) ∧ Nw w w' := by
    have q0 := format_any u hu64 w htab
    go_enter Tryz.func170, Tryz.ntmps170
    go_wp2_with fail
    refine q0.mono ?_
    rintro e w1 ⟨rfl, n1⟩
    go_wp2_with fail
    go_ret
    exact ⟨rfl, n1⟩
  go_enter Tryz.func137, Tryz.ntmps137
  go_wp2_with fail
  refine q.mono ?_
  rintro e w1 ⟨rfl, n1⟩
  go_wp2_with fail
  go_ret
  exact ⟨rfl, n1⟩
end TX
end Go.Proofs.YtjkhcplnedcmeaaGreatDoor
namespace Go.Proofs.YtjkhcplnedcmeaaGreatDoor
open Go.RowKit
set_option linter.unusedVariables false
set_option linter.unusedSimpArgs false
/-- Digits by threes. -/
def thrL (l : List UInt8) : List UInt8 := if h : l.length ≤ 3 then l else 120 :: (l.take 3 ++ 47 :: thrL (l.drop 3))
termination_by l.length
decreasing_by simp; omega
/-- Filled up with noughts ahead. -/
def pad3 (l : List UInt8) : List UInt8 := List.replicate ((3 - l.length % 3) % 3) 48 ++ l
theorem thrL_le (l : List UInt8) (h : l.length ≤ 3) : thrL l = l := by rw [thrL]; simp [h]
theorem thrL_gt (l : List UInt8) (h : 3 < l.length) : thrL l = [120] ++ l.take 3 ++ [47] ++ thrL (l.drop 3) := by
  conv => lhs; rw [thrL]
  rw [dif_neg (by omega)]; simp
theorem thrL_len : ∀ (k : Nat) (l : List UInt8), l.length = 3 * k + 3 → (thrL l).length = 5 * k + 3
  | 0, l, h => by rw [thrL_le l (by omega)]; omega
  | k + 1, l, h => by
    rw [thrL_gt l (by omega)]
    have ih := thrL_len k (l.drop 3) (by simp; omega)
    simp only [List.length_append, List.length_cons, List.length_nil, List.length_take, ih]
    omega
theorem pad3_len (l : List UInt8) : (pad3 l).length = l.length + (3 - l.length % 3) % 3 := by simp [pad3]; omega
theorem bx (l : List UInt8) : (⟨l.toArray⟩ : ByteArray).data.toList = l := by simp
theorem bxs (l : List UInt8) : (⟨l.toArray⟩ : ByteArray).size = l.length := by simp [ByteArray.size]
theorem ext_take (s : ByteArray) (k : Nat) : (s.extract 0 k).data.toList = s.data.toList.take k := by simp
theorem ext_drop (s : ByteArray) (k : Nat) : (s.extract k s.size).data.toList = s.data.toList.drop k := by
  rw [ByteArray.data_extract, Array.toList_extract, List.extract_eq_take_drop]
  exact List.take_of_length_le (by rw [List.length_drop, bytes_len]; exact Nat.le_refl _)
set_option maxRecDepth 100000 in
set_option maxHeartbeats 400000 in
theorem threes_any (g cap : Nat) (hcap : cap ≤ 1000000) (T : List UInt8) (d : ByteArray) (hd0 : 1 ≤ d.size) (w : World) (hT : Lay w g cap T) (hfit : T.length + (thrL (pad3 d.data.toList)).length ≤ cap) (hdb : d.size ≤ 1000000)
    (QP : ∀ (c : Nat) (V : World), c < 3 → Calls Tryz.prog 171 #[.string ⟨#[48]⟩, .int .i64 (c : Int)] V fun e w' => e = .returned (.string ⟨(List.replicate c 48).toArray⟩) ∧ Nw V w') :
    Calls Tryz.prog 138 #[.slice (some ⟨g, 0, none⟩) T.length cap, .string d] w fun e w' => e = .returned (.slice (some ⟨g, 0, none⟩) (T ++ thrL (pad3 d.data.toList)).length cap) ∧ Lay w' g cap (T ++ thrL (pad3 d.data.toList)) ∧ Fr (fun k => k = g) w w' := by
  have HT : Hid (Lay w g cap T) := hT
  have HF : Hid (T.length + (thrL (pad3 d.data.toList)).length ≤ cap) := hfit
  have hql := bytes_len d
  obtain ⟨n, hn⟩ : ∃ n, n = d.size := ⟨_, rfl⟩
  have HQ : Hid (∀ (V : World), Calls Tryz.prog 171 #[.string ⟨#[48]⟩, .int .i64 (-((n : Int) % 3) % 3)] V fun e w' => e = .returned (.string ⟨(List.replicate ((3 - n % 3) % 3) 48).toArray⟩) ∧ Nw V w') := fun V => by
    have e : (-((n : Int) % 3) % 3) = (((3 - n % 3) % 3 : Nat) : Int) := by omega
    rw [e]
    exact QP _ V (Nat.mod_lt _ (by decide))
  have HN : Hid (d.size = n) := hn.symm
  have hsz : (d.size : Int) = (n : Int) := by rw [hn]
  have hn1 : 1 ≤ n := by omega
  have hnb : n ≤ 1000000 := by omega
  obtain ⟨Z, hZ⟩ : ∃ Z, Z = (⟨(List.replicate ((3 - n % 3) % 3) 48).toArray⟩ : ByteArray) := ⟨_, rfl⟩
  have HZ : Hid (Z.data.toList ++ d.data.toList = pad3 d.data.toList) := by show _ = _; rw [hZ, bx, pad3, hql, ← hn]
  have hzb : Z.size ≤ 2 := by rw [hZ, bxs, List.length_replicate]; omega
  have hdb2 : d.size ≤ 1000000 := hdb
  rw [← hZ] at HQ
  obtain ⟨t0, ht0⟩ : ∃ t, t = T.length := ⟨_, rfl⟩
  have HT0 : Hid (T.length = t0) := ht0.symm
  rw [← ht0]
  clear hT hfit hql hn hZ ht0 hd0 hdb QP
  go_enter Tryz.func138, Tryz.ntmps138
  go_wp2_with fail
  refine (HQ.out _).mono ?_
  rintro e w1 ⟨rfl, n1⟩
  have N1 : Hid (Nw w w1) := n1
  clear n1
  go_wp2
  have HR : Hid (T.length + (thrL (pad3 d.data.toList)).length ≤ cap) := HF.out
  go_loopw [0, 1] (fun v u wr => ∃ (n : Nat) (U : List UInt8) (s : ByteArray), v = .slice (some ⟨g, 0, none⟩) n cap ∧ n = U.length ∧ u = .string s ∧ U ++ thrL s.data.toList = T ++ thrL (pad3 d.data.toList) ∧ 1 ≤ s.size ∧ s.size ≤ 1000002 ∧ Lay wr g cap U ∧ Fr (fun q => q = g) w wr) (fun _ u _ => strLen u)
  case atStart =>
    refine ⟨t0, T, Z ++ d, rfl, HT0.out.symm, rfl, ?_, ?_, ?_, HT.out.fr N1.out (fun f => f), N1.out.mono (fun _ _ f => f.elim)⟩
    · rw [← HZ.out]; congr 2
    · rw [ByteArray.size_append, HN.out]; omega
    · rw [ByteArray.size_append]; omega
  case round =>
    obtain ⟨n2, U, s, rfl, hn2, rfl, he, hs1, hs2, hl, hf⟩ := hrel
    have HE : Hid (U ++ thrL s.data.toList = T ++ thrL (pad3 d.data.toList)) := he
    have HN2 : Hid (n2 = U.length) := hn2
    have HLa : Hid (Lay wr g cap U) := hl
    have HFR : Hid (Fr (fun q => q = g) w wr) := hf
    have hsl := bytes_len s
    have hle : U.length + (thrL s.data.toList).length ≤ cap := by
      have := congrArg List.length he
      rw [List.length_append, List.length_append] at this
      have := HF.out
      omega
    by_cases hlt : 3 < s.size
    · have hli : (3 : Int) < (s.size : Int) := by omega
      have e3 := thrL_gt s.data.toList (by omega)
      have x3 : (⟨#[120]⟩ : ByteArray).data.toList = [120] := rfl
      have s3 : (⟨#[47]⟩ : ByteArray).data.toList = [47] := rfl
      have hcat : cat [⟨#[120]⟩, s.extract 0 3, ⟨#[47]⟩] = [120] ++ s.data.toList.take 3 ++ [47] := by
        simp only [cat, List.flatMap_cons, List.flatMap_nil, List.append_nil, ext_take, List.append_assoc]
      have QL : Hid (Calls Tryz.prog 136 #[.slice (some ⟨g, 0, none⟩) n2 cap, .slice (some ⟨wr.heap.size, 0, none⟩) 3 3] (wr.alloc (.cells #[.string ⟨#[120]⟩, .string (s.extract 0 3), .string ⟨#[47]⟩] 9)) fun e w' => e = .returned (.slice (some ⟨g, 0, none⟩) (U ++ ([120] ++ s.data.toList.take 3 ++ [47])).length cap) ∧ Lay w' g cap (U ++ ([120] ++ s.data.toList.take 3 ++ [47])) ∧ Fr (fun k => k = g) (wr.alloc (.cells #[.string ⟨#[120]⟩, .string (s.extract 0 3), .string ⟨#[47]⟩] 9)) w') := by
        have q := lay_any g cap 3 hcap U (some ⟨wr.heap.size, 0, none⟩) [⟨#[120]⟩, s.extract 0 3, ⟨#[47]⟩] _ (hl.fr (nwa wr _) (fun f => f)) (strs3 wr _ _ _) (fun a ha => by cases ha; have := hl.lt; show wr.heap.size ≠ g; omega) (by
          rw [hcat]; rw [e3] at hle; simp only [List.length_append] at hle ⊢; omega) (by simp) (by
          intro x hx
          simp only [List.mem_cons, List.not_mem_nil, or_false] at hx
          rcases hx with rfl | rfl | rfl
          · decide
          · have := ext_take s 3
            have := congrArg List.length this
            rw [bytes_len, List.length_take] at this
            omega
          · decide)
        rw [hcat, ← hn2] at q
        exact q
      have HE3 : Hid ((U ++ ([120] ++ s.data.toList.take 3 ++ [47])) ++ thrL (s.extract 3 s.size).data.toList = T ++ thrL (pad3 d.data.toList)) := by
        show _ = _
        rw [ext_drop, ← he, e3]; simp only [List.append_assoc]
      have hx1 : (s.extract 3 s.size).size = s.size - 3 := by rw [← bytes_len, ext_drop, List.length_drop, bytes_len]
      have HX1 : Hid ((s.extract 3 s.size).size = s.size - 3) := hx1
      clear he hn2 hl hf hle e3 hcat hsl hx1 x3 s3
      go_wp2_with fail
      refine QL.out.mono ?_
      rintro e w2 ⟨rfl, l2, f2⟩
      have L2 : Hid (Lay w2 g cap (U ++ ([120] ++ s.data.toList.take 3 ++ [47]))) := l2
      have F2 : Hid (Fr (fun q => q = g) w w2) := (HFR.out.alloc _).trans f2 (fun _ _ q => q)
      clear l2 f2
      go_wp2
      refine ⟨⟨_, _, s.extract 3 s.size, rfl, by simp only [List.length_append, List.length_take, List.length_cons, List.length_nil, bytes_len]; omega, rfl, HE3.out, by rw [HX1.out]; omega, by rw [HX1.out]; omega, L2.out, F2.out⟩, ?_⟩
      show (s.extract 3 s.size).size < s.size
      rw [HX1.out]; omega
    · have hli : ¬ (3 : Int) < (s.size : Int) := by omega
      have e3 := thrL_le s.data.toList (by omega)
      have QL : Hid (Calls Tryz.prog 136 #[.slice (some ⟨g, 0, none⟩) n2 cap, .slice (some ⟨wr.heap.size, 0, none⟩) 1 1] (wr.alloc (.cells #[.string s] 9)) fun e w' => e = .returned (.slice (some ⟨g, 0, none⟩) (T ++ thrL (pad3 d.data.toList)).length cap) ∧ Lay w' g cap (T ++ thrL (pad3 d.data.toList)) ∧ Fr (fun k => k = g) (wr.alloc (.cells #[.string s] 9)) w') := by
        have hcat : cat [s] = s.data.toList := by simp [cat]
        have q := lay_any g cap 1 hcap U (some ⟨wr.heap.size, 0, none⟩) [s] _ (hl.fr (nwa wr _) (fun f => f)) (strs1 wr _) (fun a ha => by cases ha; have := hl.lt; show wr.heap.size ≠ g; omega) (by rw [hcat]; rw [e3] at hle; exact hle) (by simp) (by
          intro x hx
          rw [List.mem_singleton.1 hx]; omega)
        rw [e3] at he
        rw [hcat, ← hn2, he] at q
        exact q
      clear he hn2 hl hf hle e3 hsl
      go_wp2_with fail
      refine QL.out.mono ?_
      rintro e w2 ⟨rfl, l2, f2⟩
      have L2 : Hid (Lay w2 g cap (T ++ thrL (pad3 d.data.toList))) := l2
      have F2 : Hid (Fr (fun q => q = g) w w2) := (HFR.out.alloc _).trans f2 (fun _ _ q => q)
      clear l2 f2
      obtain ⟨N2, hN2⟩ : ∃ N2, N2 = (T ++ thrL (pad3 d.data.toList)).length := ⟨_, rfl⟩
      rw [← hN2]
      have HN3 : Hid (N2 = (T ++ thrL (pad3 d.data.toList)).length) := hN2
      clear hN2
      go_wp2
      go_ret
      exact ⟨by have h := HN3.out; rw [List.length_append] at h; first | (rw [← h]; rfl) | (rw [← HN3.out]; rfl), L2.out, F2.out⟩
end Go.Proofs.YtjkhcplnedcmeaaGreatDoor
namespace Go.Proofs.YtjkhcplnedcmeaaGreatDoor
open Go.RowKit
open Go.Lib (decDigits nDigits)
set_option linter.unusedVariables false
set_option linter.unusedSimpArgs false
theorem nDigits_lt : ∀ (k u : Nat), u < 10 ^ (k + 1) → nDigits u ≤ k + 1
  | 0, u, h => by rw [Go.Lib.nDigits_small (by simpa using h)]; omega
  | k + 1, u, h => by
    by_cases hu : u < 10
    · rw [Go.Lib.nDigits_small hu]; omega
    · rw [Go.Lib.nDigits_big hu]
      have := nDigits_lt k (u / 10) (by rw [Nat.pow_succ] at h; omega)
      omega
/-- A tile's name. -/
def nm (L I W : Nat) : List UInt8 := [116, 105, 108, 101, 47] ++ decDigits L ++ [47] ++ thrL (pad3 (decDigits I)) ++ (if W < 256 then [46, 112, 47] ++ decDigits W else [])
theorem rep3 (c : Nat) (V : World) (h : c < 3) : Calls Tryz.prog 171 #[.string ⟨#[48]⟩, .int .i64 (c : Int)] V fun e w' => e = .returned (.string ⟨(List.replicate c 48).toArray⟩) ∧ Nw V w' := by
  match c, h with
  | 0, _ => exact (Tryz.strings_Repeat_zero _ V).mono (by rintro e w' ⟨rfl, rfl⟩; exact ⟨rfl, nwr _⟩)
  | 1, _ => exact (Tryz.strings_Repeat_one _ V).mono (by rintro e w' ⟨rfl, rfl⟩; exact ⟨rfl, nwr _⟩)
  | 2, _ => exact (Tryz.strings_Repeat_main ⟨#[48]⟩ 2 V (by decide) (by decide) (by decide) (by decide)).mono (by rintro e w' ⟨rfl, b⟩; exact ⟨rfl, Fr.ofBelow b⟩)
theorem lay_made {w w' : World} {g cap : Nat} (h : w'.ownsRow g 5 1 (.slice (some ⟨g, 0, none⟩) 0 cap) 0 []) : Lay w' g cap [] := by
  obtain ⟨_, h2⟩ := h
  rcases h2 with ⟨h2, _⟩ | ⟨g', cap', cur, hv, hb, hh, h3, h4, h5, h6⟩
  · cases h2
  · cases hv
    exact ⟨cur, hh, by omega, by simp [bc], by simp⟩
theorem info8b : ∃ i, Tryz.prog.info? 5 = some i ∧ i.zero = some (.int .u8 0) ∧ i.size = 1 ∧ i.bytes = 1 := by
  have h : (Tryz.prog.info? 5).map (fun i => (i.zero, i.size, i.bytes)) = some (some (.int .u8 0), 1, 1) := by kernel_rfl
  obtain ⟨i, hi, he⟩ := Option.map_eq_some_iff.1 h
  simp only [Prod.mk.injEq] at he
  exact ⟨i, hi, he.1, he.2.1, he.2.2⟩
theorem wpl_make0 {w : World} {ops : Array Oper} {rest : List Oper} {o : Oper} {a : Act} {Q : Exit → Act → World → Prop} (hgd : o.guard = none) (c : Nat) (hc : c ≤ 1000000) (ho : o.op = .makeSlice 168 (.const (.int .i64 0)) (.const (.int .i64 (c : Int))))
    (h : ∀ w', Lay w' w.heap.size c [] → Nw w w' → wpList Tryz.prog ops Q rest (a.put o.dst (.slice (some ⟨w.heap.size, 0, none⟩) 0 c)) w') : wpList Tryz.prog ops Q (o :: rest) a w := by
  obtain ⟨i, hi, hz0, hz1, hz2⟩ := info8b
  obtain ⟨w', hr, hown, hg⟩ := run_make_own (P := Tryz.prog) w w.heap.size 168 5 i (.int .u8 0) 1 Tryz.underlying168 hi hz0 hz1 .i64 .i64 c (by rw [hz2]; omega) (by unfold maxLen; omega) (Nat.le_refl _)
  refine wpList_plain hgd fun K hK => ?_
  unfold Oper.wp execOp
  simp only [ho, Act.eval, Sem.run_bind, Sem.run_pure, Result.andThen_ok, hr]
  exact hK _ _ (h w' (lay_made (w := w) hown) ((Fr.refl _ _).grown hg (fun k e _ => by cases e)))
theorem conv_lay {w : World} {g cap : Nat} {T : List UInt8} (h : Lay w g cap T) : (convert 168 9 (.slice (some ⟨g, 0, none⟩) T.length cap)).run Tryz.prog w = .ok (.string ⟨T.toArray⟩) w := by
  obtain ⟨cur, h1, h2, h3, h4⟩ := h
  refine run_convert_bytes_back w _ _ 5 ⟨g, 0, none⟩ cap T Tryz.underlying168 Tryz.underlying5 Tryz.underlying9 (fun j hj => ?_)
  rw [addZ, cell_of h1]
  have e : (cur.toList.take T.length)[j]? = (bc T)[j]? := by rw [h3]
  rw [List.getElem?_take, if_pos hj] at e
  rw [← Array.getElem?_toList, e, bc, List.getElem?_map, List.getElem?_eq_getElem hj]
  rfl
theorem nm_len {L I W : Nat} (h : mayT L I (W : Int)) : (nm L I W).length ≤ 41 ∧ L ≤ 7 ∧ I < 36028797018963968 ∧ 1 ≤ W ∧ W ≤ 256 := by
  obtain ⟨h1, h2⟩ := h
  unfold wid at h2
  have hL : L ≤ 7 := by
    by_cases q : 7 < L
    · rw [if_pos (.inl q)] at h2; omega
    · omega
  rw [if_neg (by omega)] at h2
  have hN : nod8 L 9223372036854775808 ≤ 9223372036854775808 := Nat.div_le_self _ _
  have hI : I < 36028797018963968 := by omega
  have hW : W ≤ 256 := by omega
  refine ⟨?_, hL, hI, by omega, hW⟩
  have l1 : (decDigits L).length ≤ 1 := by rw [Go.Lib.decDigits_length]; exact nDigits_lt 0 L (by omega)
  have l2 : (decDigits I).length ≤ 17 := by rw [Go.Lib.decDigits_length]; exact nDigits_lt 16 I (by omega)
  have l20 : 1 ≤ (decDigits I).length := by rw [Go.Lib.decDigits_length]; exact Go.Lib.nDigits_pos I
  have l3 : (decDigits W).length ≤ 3 := by rw [Go.Lib.decDigits_length]; exact nDigits_lt 2 W (by omega)
  have lp := pad3_len (decDigits I)
  obtain ⟨k, hk, hk5⟩ : ∃ k, (pad3 (decDigits I)).length = 3 * k + 3 ∧ k ≤ 5 := ⟨((pad3 (decDigits I)).length - 3) / 3, by omega, by omega⟩
  have lt := thrL_len k _ hk
  unfold nm
  split
  · simp only [List.length_append, List.length_cons, List.length_nil, lt]; omega
  · simp only [List.length_append, List.length_cons, List.length_nil, lt]; omega
theorem dec_ne (u : Nat) : (⟨(decDigits u).toArray⟩ : ByteArray).size ≠ 0 := by
  rw [bxs, Go.Lib.decDigits_length]
  have := Go.Lib.nDigits_pos u
  omega
set_option maxRecDepth 100000 in
set_option maxHeartbeats 1000000 in
theorem name_any (L I W : Nat) (h : mayT L I (W : Int)) (w : World) (hP : TX.Pow w) :
    Calls Tryz.prog 100 #[tl L I W] w fun e w' => e = .returned (.string ⟨(nm L I W).toArray⟩) ∧ Nw w w' := by
  obtain ⟨hlen, hL, hI, hW1, hW⟩ := nm_len h
  have HP : Hid (TX.Pow w) := hP
  have QD : Hid (∀ (u : Nat) (V : World), u < 18446744073709551616 → Nw w V → Calls Tryz.prog 137 #[.int .u64 (u : Int)] V fun e w' => e = .returned (.string ⟨(decDigits u).toArray⟩) ∧ Nw V w') := fun u V hu nV => TX.decimal_any u hu V (HP.out.fr nV)
  have HLN : Hid ((nm L I W).length ≤ 41) := hlen
  clear h hP hlen
  go_enter Tryz.func100, Tryz.ntmps100
  go_wp2_with (refine wpl_make0 rfl 41 (by decide) rfl ?_; intro w1 y1 n1; have Y1 : Hid (Lay w1 (w.alloc (.cells #[.int .u8 (L : Int), .int .u64 (I : Int), .int .i64 (W : Int)] 120)).heap.size 41 []) := y1; have N1 : Hid (Nw (w.alloc (.cells #[.int .u8 (L : Int), .int .u64 (I : Int), .int .i64 (W : Int)] 120)) w1) := n1; obtain ⟨l0, b0, m1⟩ := one_made n1; obtain ⟨c0, c1, c2⟩ := cell3 b0; clear y1 n1)
  rw [World.size_alloc] at Y1
  obtain ⟨b, hb⟩ : ∃ b, b = w.heap.size := ⟨_, rfl⟩
  rw [← hb] at Y1 b0 c0 c1 c2 ⊢
  obtain ⟨g, hg⟩ : ∃ g, g = b + 1 := ⟨_, rfl⟩
  rw [← hg] at Y1 ⊢
  have HG : Hid (g = b + 1 ∧ b = w.heap.size) := ⟨hg, hb⟩
  have B0 : Hid (w1.heap[b]? = some (.cells #[.int .u8 (L : Int), .int .u64 (I : Int), .int .i64 (W : Int)] 120)) := b0
  have M1 : Hid (Nw w w1) := m1
  clear hb hg m1 N1 b0 l0
  have SP : Hid (∀ V, Fr (fun k => k = g) w V → Nw w V) := fun V f => f.mono (fun k hk e => by have := HG.out; omega)
  obtain ⟨sL, hsL⟩ : ∃ s, s = (⟨(decDigits L).toArray⟩ : ByteArray) := ⟨_, rfl⟩
  have q1 := QD.out L w1 (by omega) M1.out
  rw [← hsL] at q1
  refine q1.mono ?_
  rintro e w2 ⟨rfl, n2⟩
  clear q1
  have M2 : Hid (Nw w w2) := M1.out.tr n2
  have B2 : Hid (w2.heap[b]? = some (.cells #[.int .u8 (L : Int), .int .u64 (I : Int), .int .i64 (W : Int)] 120)) := (n2.block _ (heap_lt B0.out) (fun f => f)).trans B0.out
  have Y2 : Hid (Lay w2 g 41 []) := Y1.out.fr n2 (fun f => f)
  have hcat1 : cat [⟨#[116, 105, 108, 101, 47]⟩, sL, ⟨#[47]⟩] = [116, 105, 108, 101, 47] ++ decDigits L ++ [47] := by
    rw [hsL]; simp [cat]
  have hnmL : ([116, 105, 108, 101, 47] ++ decDigits L ++ [47]).length ≤ 41 := by
    have := HLN.out; unfold nm at this; simp only [List.length_append] at this ⊢; omega
  have QL : Hid (Calls Tryz.prog 136 #[.slice (some ⟨g, 0, none⟩) 0 41, .slice (some ⟨w2.heap.size, 0, none⟩) 3 3] (w2.alloc (.cells #[.string ⟨#[116, 105, 108, 101, 47]⟩, .string sL, .string ⟨#[47]⟩] 9)) fun e w' => e = .returned (.slice (some ⟨g, 0, none⟩) ([116, 105, 108, 101, 47] ++ decDigits L ++ [47]).length 41) ∧ Lay w' g 41 ([116, 105, 108, 101, 47] ++ decDigits L ++ [47]) ∧ Fr (fun k => k = g) (w2.alloc (.cells #[.string ⟨#[116, 105, 108, 101, 47]⟩, .string sL, .string ⟨#[47]⟩] 9)) w') := by
    have q := lay_any g 41 3 (by decide) [] (some ⟨w2.heap.size, 0, none⟩) [⟨#[116, 105, 108, 101, 47]⟩, sL, ⟨#[47]⟩] _ (Y2.out.fr (nwa w2 _) (fun f => f)) (strs3 w2 _ _ _) (fun a ha => by cases ha; have := Y2.out.lt; show w2.heap.size ≠ g; omega) (by rw [hcat1]; simp only [List.length_nil, Nat.zero_add]; exact hnmL) (by simp) (by
      intro x hx
      simp only [List.mem_cons, List.not_mem_nil, or_false] at hx
      rcases hx with rfl | rfl | rfl
      · decide
      · rw [hsL]; exact dec_ne L
      · decide)
    rw [hcat1] at q
    exact q
  obtain ⟨U, hU⟩ : ∃ U, U = [116, 105, 108, 101, 47] ++ decDigits L ++ [47] := ⟨_, rfl⟩
  rw [← hU] at QL
  have HU : Hid (U = [116, 105, 108, 101, 47] ++ decDigits L ++ [47]) := hU
  clear n2 hsL hcat1 hnmL c0 c1 c2 B0 Y1 hU
  go_wp2_with fail
  refine QL.out.mono ?_
  rintro e w3 ⟨rfl, y3, f3⟩
  have Y3 : Hid (Lay w3 g 41 U) := y3
  have F3 : Hid (Fr (fun k => k = g) w2 w3) := (nwa w2 _).mono (fun _ _ f => f.elim) |>.trans f3 (fun _ _ q => q)
  have M3 : Hid (Nw w w3) := SP.out _ ((M2.out.mono (fun _ _ f => f.elim)).trans F3.out (fun _ _ q => q))
  have B3 : Hid (w3.heap[b]? = some (.cells #[.int .u8 (L : Int), .int .u64 (I : Int), .int .i64 (W : Int)] 120)) := (F3.out.block _ (heap_lt B2.out) (fun q => by have := HG.out; omega)).trans B2.out
  obtain ⟨c0, c1, c2⟩ := cell3 B3.out
  have lb := heap_lt B3.out
  obtain ⟨uu, huu⟩ : ∃ q, q = U.length := ⟨_, rfl⟩
  rw [← huu]
  have HUU : Hid (U.length = uu) := huu.symm
  clear y3 f3 QL huu
  obtain ⟨sI, hsI⟩ : ∃ s, s = (⟨(decDigits I).toArray⟩ : ByteArray) := ⟨_, rfl⟩
  have HSI : Hid (sI = (⟨(decDigits I).toArray⟩ : ByteArray)) := hsI
  have q1 := QD.out I w3 (by omega) M3.out
  rw [← hsI] at q1
  clear hsI
  go_wp2_with fail
  refine q1.mono ?_
  rintro e w4 ⟨rfl, n4⟩
  clear q1
  have M4 : Hid (Nw w w4) := M3.out.tr n4
  have B4 : Hid (w4.heap[b]? = some (.cells #[.int .u8 (L : Int), .int .u64 (I : Int), .int .i64 (W : Int)] 120)) := (n4.block _ (heap_lt B3.out) (fun f => f)).trans B3.out
  have Y4 : Hid (Lay w4 g 41 U) := Y3.out.fr n4 (fun f => f)
  have QT : Hid (Calls Tryz.prog 138 #[.slice (some ⟨g, 0, none⟩) uu 41, .string sI] w4 fun e w' => e = .returned (.slice (some ⟨g, 0, none⟩) (U ++ thrL (pad3 (decDigits I))).length 41) ∧ Lay w' g 41 (U ++ thrL (pad3 (decDigits I))) ∧ Fr (fun k => k = g) w4 w') := by
    have hd : sI.data.toList = decDigits I := by rw [HSI.out, bx]
    have hds : sI.size = nDigits I := by rw [HSI.out, bxs, Go.Lib.decDigits_length]
    have q := threes_any g 41 (by decide) U sI (by rw [hds]; exact Go.Lib.nDigits_pos I) w4 Y4.out (by
      rw [hd]
      have := HLN.out; unfold nm at this; rw [← HU.out] at this; simp only [List.length_append] at this ⊢; omega) (by rw [hds]; have := nDigits_lt 19 I (by omega); omega) (fun c V h => rep3 c V h)
    rw [hd, HUU.out] at q
    exact q
  obtain ⟨X, hX⟩ : ∃ X, X = U ++ thrL (pad3 (decDigits I)) := ⟨_, rfl⟩
  rw [← hX] at QT
  have HX : Hid (X = U ++ thrL (pad3 (decDigits I))) := hX
  clear n4 c0 c1 c2 B3 Y3 lb hX
  go_wp2_with fail
  refine QT.out.mono ?_
  rintro e w5 ⟨rfl, y5, f5⟩
  have Y5 : Hid (Lay w5 g 41 X) := y5
  have M5 : Hid (Nw w w5) := SP.out _ ((M4.out.mono (fun _ _ f => f.elim)).trans f5 (fun _ _ q => q))
  have B5 : Hid (w5.heap[b]? = some (.cells #[.int .u8 (L : Int), .int .u64 (I : Int), .int .i64 (W : Int)] 120)) := (f5.block _ (heap_lt B4.out) (fun q => by have := HG.out; omega)).trans B4.out
  obtain ⟨c0, c1, c2⟩ := cell3 B5.out
  have lb := heap_lt B5.out
  obtain ⟨xx, hxx⟩ : ∃ q, q = X.length := ⟨_, rfl⟩
  rw [← hxx]
  have HXX : Hid (X.length = xx) := hxx.symm
  clear y5 f5 QT hxx
  by_cases hw : W < 256
  · have hwi : (W : Int) < 256 := by omega
    have hnm : X ++ ([46, 112, 47] ++ decDigits W) = nm L I W := by rw [HX.out, HU.out]; unfold nm; rw [if_pos hw]
    obtain ⟨sW, hsW⟩ : ∃ s, s = (⟨(decDigits W).toArray⟩ : ByteArray) := ⟨_, rfl⟩
    have q1 := QD.out W w5 (by omega) M5.out
    rw [← hsW] at q1
    have HSW : Hid (sW = (⟨(decDigits W).toArray⟩ : ByteArray)) := hsW
    clear hsW
    go_wp2_with fail
    refine q1.mono ?_
    rintro e w6 ⟨rfl, n6⟩
    clear q1
    have M6 : Hid (Nw w w6) := M5.out.tr n6
    have Y6 : Hid (Lay w6 g 41 X) := Y5.out.fr n6 (fun f => f)
    have hcat2 : cat [⟨#[46, 112, 47]⟩, sW] = [46, 112, 47] ++ decDigits W := by rw [HSW.out]; simp [cat]
    have QL : Hid (Calls Tryz.prog 136 #[.slice (some ⟨g, 0, none⟩) xx 41, .slice (some ⟨w6.heap.size, 0, none⟩) 2 2] (w6.alloc (.cells #[.string ⟨#[46, 112, 47]⟩, .string sW] 9)) fun e w' => e = .returned (.slice (some ⟨g, 0, none⟩) (nm L I W).length 41) ∧ Lay w' g 41 (nm L I W) ∧ Fr (fun k => k = g) (w6.alloc (.cells #[.string ⟨#[46, 112, 47]⟩, .string sW] 9)) w') := by
      have q := lay_any g 41 2 (by decide) X (some ⟨w6.heap.size, 0, none⟩) [⟨#[46, 112, 47]⟩, sW] _ (Y6.out.fr (nwa w6 _) (fun f => f)) (strs2 w6 _ _) (fun a ha => by cases ha; have := Y6.out.lt; show w6.heap.size ≠ g; omega) (by rw [hcat2, ← List.length_append, hnm]; exact HLN.out) (by simp) (by
        intro x hx
        simp only [List.mem_cons, List.not_mem_nil, or_false] at hx
        rcases hx with rfl | rfl
        · decide
        · rw [HSW.out]; exact dec_ne W)
      rw [hcat2, hnm, HXX.out] at q
      exact q
    clear n6 hcat2 hnm c0 c1 c2 B5 Y5
    go_wp2_with fail
    refine QL.out.mono ?_
    rintro e w7 ⟨rfl, y7, f7⟩
    have M7 : Hid (Nw w w7) := SP.out _ (((M6.out.alloc _).mono (fun _ _ f => f.elim)).trans f7 (fun _ _ q => q))
    have hcv := conv_lay y7
    clear y7 f7 QL
    generalize (nm L I W).length = nl at hcv ⊢
    go_wp2
    go_ret
    exact ⟨rfl, M7.out⟩
  · have hwi : ¬ (W : Int) < 256 := by omega
    have hnm : X = nm L I W := by rw [HX.out, HU.out]; unfold nm; rw [if_neg hw, List.append_nil]
    have hcv := conv_lay Y5.out
    rw [HXX.out] at hcv
    have HNM : Hid (X = nm L I W) := hnm
    clear hnm
    go_wp2
    go_ret
    exact ⟨by rw [← HNM.out]; rfl, M5.out⟩
end Go.Proofs.YtjkhcplnedcmeaaGreatDoor
namespace Go.Proofs.YtjkhcplnedcmeaaGreatDoor
open Go.RowKit
open Go.Lib (decDigits nDigits)
set_option linter.unusedVariables false
set_option linter.unusedSimpArgs false
set_option maxHeartbeats 1000000 in
theorem tpath_yes (L I W : Nat) (h : mayT L I (W : Int)) (w : World) (hP : TX.Pow w) :
    Calls Tryz.prog 53 #[tl L I W] w fun e w' => e = .returned (.tuple #[.string ⟨(nm L I W).toArray⟩, .nilIface]) ∧ Nw w w' := by
  have hb := nm_len h
  have HP : Hid (TX.Pow w) := hP
  have HM : Hid (mayT L I (W : Int)) := h
  obtain ⟨s, hs⟩ : ∃ s, s = (⟨(nm L I W).toArray⟩ : ByteArray) := ⟨_, rfl⟩
  have QN : Hid (∀ V, Nw w V → Calls Tryz.prog 100 #[tl L I W] V fun e w' => e = .returned (.string s) ∧ Nw V w') := fun V nV => by rw [hs]; exact name_any L I W HM.out V (HP.out.fr nV)
  have QM : Hid (∀ V, Calls Tryz.prog 99 #[tl L I W] V fun e w' => e = .returned (.bool true) ∧ Nw V w') := fun V => maybe_any L I (W : Int) (by omega) (by omega) true (by simp [HM.out]) V
  rw [← hs]
  clear h hP hs hb
  go_enter Tryz.func53, Tryz.ntmps53
  go_wp2_with fail
  refine (QM.out _).mono ?_
  rintro e w1 ⟨rfl, n1⟩
  obtain ⟨l0, b0, n2⟩ := one_made n1
  obtain ⟨c0, c1, c2⟩ := cell3 b0
  clear n1
  go_wp2_with fail
  refine (QN.out _ n2).mono ?_
  rintro e w2 ⟨rfl, n3⟩
  go_wp2
  go_ret2
  exact ⟨rfl, n2.tr n3⟩
set_option maxHeartbeats 1000000 in
theorem tpath_no (L I : Nat) (W : Int) (hL : L ≤ 255) (hI : I < 18446744073709551616) (h : ¬ mayT L I W) (w : World) {B : Nat} {a : Nat → Addr} (hS : Sent B w a) :
    Calls Tryz.prog 53 #[.agg #[.int .u8 (L : Int), .int .u64 (I : Int), .int .i64 W]] w fun e w' => e = .returned (.tuple #[.string ⟨#[]⟩, sen (a 1)]) ∧ Nw w w' := by
  have QM : Hid (∀ V, Calls Tryz.prog 99 #[.agg #[.int .u8 (L : Int), .int .u64 (I : Int), .int .i64 W]] V fun e w' => e = .returned (.bool false) ∧ Nw V w') := fun V => maybe_any L I W hL hI false (by simp [h]) V
  have SS : Hid (∀ V, Nw w V → Sent B V a) := fun V nV => hS.fr nV (fun _ _ f => f)
  clear h hS
  go_enter Tryz.func53, Tryz.ntmps53
  go_wp2_with fail
  refine (QM.out _).mono ?_
  rintro e w1 ⟨rfl, n1⟩
  obtain ⟨l0, b0, n2⟩ := one_made n1
  have e1 := (SS.out _ n2).c1
  clear n1
  go_wp2_with fail
  go_quiet (fail)
  go_wp2
  go_ret2
  exact ⟨rfl, n2.drewN nq⟩
/-- Bytes in memory, as a value. -/
def Byl (w : World) (v : Value) (X : List UInt8) : Prop := (X = [] ∧ v = .slice none 0 0) ∨ ∃ b o c, v = .slice (some ⟨b, o, none⟩) X.length c ∧ X.length ≤ c ∧ (X.length ≤ 1000000 ∧ c ≤ 9223372036854775807) ∧ ∀ i x, X[i]? = some x → w.cell? ⟨b, o + i, none⟩ = some (.int .u8 (x.toNat : Int))
theorem Byl.nw {w w' : World} {v : Value} {X : List UInt8} (h : Byl w v X) (n : Nw w w') : Byl w' v X := by
  rcases h with h | ⟨b, o, c, h1, h2, h3, h4⟩
  · exact .inl h
  · exact .inr ⟨b, o, c, h1, h2, h3, fun i x hx => n.cellOf (h4 i x hx)⟩
theorem Byl.form {w : World} {v : Value} {X : List UInt8} (h : Byl w v X) : ∃ p c, v = .slice p X.length c := by
  rcases h with ⟨rfl, rfl⟩ | ⟨b, o, c, rfl, _⟩
  · exact ⟨none, 0, rfl⟩
  · exact ⟨_, _, rfl⟩
/-- The length up to which the library's search is the machine's own, whatever it is. -/
def MaxL (w : World) : Prop := ∃ m : Int, w.cell? ⟨21, 0, none⟩ = some (.int .i64 m)
theorem MaxL.nw {w w' : World} (h : MaxL w) (n : Nw w w') : MaxL w' := by
  obtain ⟨m, h⟩ := h
  exact ⟨m, n.cellOf h⟩
/-- What stands ahead of a mark, what behind it, and whether it is there. -/
def cutA (X M : List UInt8) : List UInt8 := if Lib.index X M < 0 then X else X.take (Lib.index X M).toNat
def cutB (X M : List UInt8) : List UInt8 := if Lib.index X M < 0 then [] else X.drop ((Lib.index X M).toNat + M.length)
theorem Byl.take {w : World} {b o n : Nat} {X : List UInt8} (h : ∀ i x, X[i]? = some x → w.cell? ⟨b, o + i, none⟩ = some (.int .u8 (x.toNat : Int))) (hn : n ≤ X.length) (hX : X.length ≤ 1000000) : Byl w (.slice (some ⟨b, o, none⟩) n n) (X.take n) := by
  refine .inr ⟨b, o, n, by rw [List.length_take, Nat.min_eq_left hn], by rw [List.length_take]; omega, ⟨by rw [List.length_take]; omega, by omega⟩, fun i x hx => ?_⟩
  rw [List.getElem?_take] at hx
  split at hx
  · exact h i x hx
  · cases hx
end Go.Proofs.YtjkhcplnedcmeaaGreatDoor
