/- tile: texts laid into the room of a row of bytes. -/
import Derived.Test.YtgobdjdaehlgdaaGreatDoorU3
import Derived.Test.YtgobdjdaehlgdaaGreatDoorH1
namespace Go.Proofs.YtgobdjdaehlgdaaGreatDoor
open Go.RowKit
set_option linter.unusedVariables false
set_option linter.unusedSimpArgs false
/-- A row of bytes with room in block g: T stands at its beginning. -/
def Lay (w : World) (g cap : Nat) (T : List UInt8) : Prop := ∃ cur : Array Value, w.heap[g]? = some (.cells cur 5 (0, 0)) ∧ cur.size = cap ∧ cur.toList.take T.length = bc T ∧ T.length ≤ cap
theorem Lay.fr {S : Nat → Prop} {w w' : World} {g cap : Nat} {T : List UInt8} (h : Lay w g cap T) (f : Fr S w w') (hg : ¬ S g) : Lay w' g cap T := by
  obtain ⟨cur, h1, h2⟩ := h
  exact ⟨cur, (f.block _ (heap_lt h1) hg).trans h1, h2⟩
theorem Lay.lt {w : World} {g cap : Nat} {T : List UInt8} (h : Lay w g cap T) : g < w.heap.size := by
  obtain ⟨cur, h1, h2⟩ := h
  exact heap_lt h1
theorem wpl_copy_str {P : Program} {w : World} {ops : Array Oper} {rest : List Oper} {o : Oper} {a : Act} {Q : Exit → Act → World → Prop} (hgd : o.guard = none) (d s : Operand) (dT sT : TypeId)
    (ho : o.op = .call { callee := .builtin .copy, args := #[d, s], argTypes := #[dT, sT] }) (elem : TypeId) (hu : P.underlying dT = some (.slice elem)) (hsz : (P.info? elem).map (·.size) = some 1)
    (g off dLen dCap : Nat) (x : ByteArray) (hd : a.eval d = .slice (some ⟨g, off, none⟩) dLen dCap) (hs : a.eval s = .string x)
    (cur : Array Value) (t : TypeId) (hg : w.heap[g]? = some (.cells cur t (0, 0))) (c : List UInt8) (hc : c = x.data.toList.take (Nat.min x.size dLen)) (k : Nat) (hk : Nat.min x.size dLen = k) (hfit : off + c.length ≤ cur.size)
    (new : Array Value) (hnew : new.toList = cur.toList.take off ++ bc c ++ cur.toList.drop (off + c.length))
    (h : ∀ w', w'.heap[g]? = some (.cells new t (0, 0)) → Fr (fun k => k = g) w w' → wpList P ops Q rest (a.put o.dst (.int .i64 (k : Int))) w') : wpList P ops Q (o :: rest) a w := by
  refine wpList_step fun K hK => ?_
  exact step_copy_str hgd d s dT sT ho elem hu hsz g off dLen dCap x hd hs cur t hg c hc k hk hfit new hnew (fun w' h1 h2 => hK _ _ (h w' h1 h2))
theorem bytes_len (x : ByteArray) : x.data.toList.length = x.size := by rw [Array.length_toList]; rfl
theorem lay_put {w' : World} {g cap : Nat} {T U : List UInt8} {cur new : Array Value} (hc : cur.size = cap) (ht : cur.toList.take T.length = bc T) (hfit : T.length + U.length ≤ cap) (hnew : new.toList = cur.toList.take T.length ++ bc U ++ cur.toList.drop (T.length + U.length)) (h : w'.heap[g]? = some (.cells new 5 (0, 0))) : Lay w' g cap (T ++ U) := by
  have hl : new.toList.length = cap := by
    rw [hnew]
    simp only [List.length_append, List.length_take, List.length_drop, bc_len, Array.length_toList, hc]
    omega
  refine ⟨new, h, by rw [← hl]; simp, ?_, by simp; omega⟩
  rw [hnew, ht, ← bc_app, List.take_append_of_le_length (by rw [bc_len]; exact Nat.le_refl _), List.take_of_length_le (by rw [bc_len]; exact Nat.le_refl _)]
theorem fr_cell {S : Nat → Prop} {w w' : World} (f : Fr S w w') {p : Addr} {v : Value} (h : w.cell? p = some v) (hs : ¬ S p.block) : w'.cell? p = some v := by
  refine (f.cell ?_ hs).trans h
  by_cases hl : p.block < w.heap.size
  · exact hl
  · exfalso
    have : w.heap[p.block]? = none := Array.getElem?_eq_none (by omega)
    simp [World.cell?, this] at h
set_option maxRecDepth 100000 in
set_option maxHeartbeats 2000000 in
theorem lay_any (g cap c : Nat) (hcap : cap ≤ 1000000) (T : List UInt8) (p : Option Addr) (ss : List ByteArray) (w : World) (hT : Lay w g cap T) (hs : Strs w p ss) (hp : ∀ a, p = some a → a.block ≠ g) (hfit : T.length + (cat ss).length ≤ cap) (hss : ss.length ≤ 1000000) (hne : ∀ x ∈ ss, x.size ≠ 0) :
    Calls Tryz.prog 124 #[.slice (some ⟨g, 0, none⟩) T.length cap, .slice p ss.length c] w fun e w' => e = .returned (.slice (some ⟨g, 0, none⟩) (T ++ cat ss).length cap) ∧ Lay w' g cap (T ++ cat ss) ∧ Fr (fun k => k = g) w w' := by
  have HT : Hid (Lay w g cap T) := hT
  have HS : Hid (Strs w p ss) := hs
  have HP : Hid (∀ a, p = some a → a.block ≠ g) := hp
  have HF : Hid (T.length + (cat ss).length ≤ cap) := hfit
  have HNE : Hid (∀ x ∈ ss, x.size ≠ 0) := hne
  obtain ⟨m, hm⟩ : ∃ m, m = ss.length := ⟨_, rfl⟩
  have HM : Hid (ss.length = m) := hm.symm
  rw [← hm] at hss ⊢
  obtain ⟨t0, ht0⟩ : ∃ t, t = T.length := ⟨_, rfl⟩
  have HT0 : Hid (T.length = t0) := ht0.symm
  have ht1 : t0 ≤ cap := by omega
  rw [← ht0]
  clear hT hs hp hfit hm ht0 hne
  go_enter Tryz.func124, Tryz.ntmps124
  go_wp2
  go_loopw [0, 11] (fun v i wr => ∃ (k n : Nat) (U : List UInt8), k ≤ m ∧ U = T ++ cat (ss.take k) ∧ n = U.length ∧ i = .int .i64 (k : Int) ∧ v = .slice (some ⟨g, 0, none⟩) n cap ∧ Lay wr g cap U ∧ Fr (fun q => q = g) w wr) (fun _ i _ => m - (intOf i).toNat)
  case atStart => exact ⟨0, t0, T, by omega, by simp [cat], HT0.out.symm, rfl, rfl, HT.out, Fr.refl _ _⟩
  case round =>
    obtain ⟨k, n, U, hk, hU, hn, rfl, rfl, hl, hf⟩ := hrel
    have HU : Hid (U = T ++ cat (ss.take k)) := hU
    have HN : Hid (n = U.length) := hn
    have HFR : Hid (Fr (fun q => q = g) w wr) := hf
    have hul : (T ++ cat (ss.take k)).length ≤ (T ++ cat ss).length := by
      have e : cat ss = cat (ss.take k) ++ cat (ss.drop k) := by unfold cat; rw [← List.flatMap_append, List.take_append_drop]
      rw [e]; simp only [List.length_append]; omega
    by_cases hlt : k < m
    · obtain ⟨x, hx⟩ : ∃ x, ss[k]? = some x := ⟨_, List.getElem?_eq_getElem (by rw [HM.out]; exact hlt)⟩
      obtain ⟨q, o, rfl, hc⟩ := HS.out k x hx
      have hqg : q ≠ g := HP.out _ rfl
      have hcell := fr_cell HFR.out hc hqg
      have hki : (k : Int) < (m : Int) := by omega
      have hsp : cat ss = cat (ss.take (k + 1)) ++ cat (ss.drop (k + 1)) := by unfold cat; rw [← List.flatMap_append, List.take_append_drop]
      rw [cat_step ss k x hx] at hsp
      have hnx : n + x.size ≤ cap := by
        have := HF.out
        rw [hsp] at this
        simp only [List.length_append, bytes_len] at this
        rw [hn, hU, List.length_append]
        omega
      obtain ⟨cur, g1, g2, g3, g4⟩ := hl
      have hn0 : n ≤ cap := by omega
      obtain ⟨sz, hsz⟩ : ∃ z, z = x.size := ⟨_, rfl⟩
      have HSZ : Hid (x.size = sz) := hsz.symm
      have hsz0 : sz ≠ 0 := by rw [hsz]; exact HNE.out x (List.mem_of_getElem? hx)
      have hxl : x.data.toList.length = sz := by rw [bytes_len, hsz]
      rw [← hsz] at hnx
      have G1 : Hid (wr.heap[g]? = some (.cells cur 5 (0, 0))) := g1
      obtain ⟨new, hnew⟩ : ∃ new : Array Value, new.toList = cur.toList.take n ++ bc x.data.toList ++ cur.toList.drop (n + x.data.toList.length) := ⟨_, List.toList_toArray⟩
      have HNEW : Hid (new.toList = cur.toList.take n ++ bc x.data.toList ++ cur.toList.drop (n + x.data.toList.length)) := hnew
      have HC : Hid (x.data.toList = x.data.toList.take (Nat.min x.size sz)) := by show _ = _; rw [HSZ.out, show Nat.min sz sz = sz from Nat.min_self sz, List.take_of_length_le (by rw [hxl]; exact Nat.le_refl _)]
      have HK : Hid (Nat.min x.size sz = sz) := by show _ = _; rw [HSZ.out]; exact Nat.min_self sz
      have HFT : Hid (n + x.data.toList.length ≤ cur.size) := by show _ ≤ _; rw [hxl, g2]; exact hnx
      have HL2 : Hid (∀ w', w'.heap[g]? = some (.cells new 5 (0, 0)) → Lay w' g cap (U ++ x.data.toList)) := fun w' h => by
        rw [hn] at hnew
        exact lay_put g2 g3 (by rw [hxl, ← hn]; exact hnx) hnew h
      have HU2 : Hid (U ++ x.data.toList = T ++ cat (ss.take (k + 1))) := by show _ = _; rw [cat_step ss k x hx, hU, List.append_assoc]
      have HXL : Hid ((U ++ x.data.toList).length = n + sz) := by show _ = _; rw [List.length_append, hxl, hn]
      have hsb : sz ≤ cap := by omega
      have hni : (n : Int) + (sz : Int) ≤ (cap : Int) := by omega
      have hsx : (x.size : Int) = (sz : Int) := by rw [hsz]
      clear hsz hxl hnew g1 g2 g3 g4 hU hn hul hsp hx hc hf
      go_wp2_with (refine wpl_copy_str rfl (.tmp 26) (.tmp 27) 92 9 rfl 5 Tryz.underlying92 sz8 g n sz sz x (by go_simp) rfl cur 5 G1.out x.data.toList HC.out sz HK.out HFT.out new HNEW.out ?_; intro w2 j2 f2)
      exact ⟨⟨k + 1, n + sz, U ++ x.data.toList, by omega, HU2.out, HXL.out.symm, by go_num, rfl, HL2.out w2 j2, HFR.out.trans f2 (fun _ _ q => q)⟩, by simp [intOf]; omega⟩
    · obtain rfl : k = m := by omega
      have e : U = T ++ cat ss := by rw [hU, List.take_of_length_le (by rw [HM.out]; exact Nat.le_refl _)]
      have hki : ¬ (k : Int) < (k : Int) := by omega
      have HR : Hid (n = (T ++ cat ss).length ∧ Lay wr g cap (T ++ cat ss)) := ⟨by rw [← e]; exact hn, by rw [← e]; exact hl⟩
      clear hl hU e hn
      go_wp2
      go_ret
      exact ⟨by have h := HR.out.1; rw [List.length_append] at h; rw [← h]; rfl, HR.out.2, hf⟩
end Go.Proofs.YtgobdjdaehlgdaaGreatDoor
