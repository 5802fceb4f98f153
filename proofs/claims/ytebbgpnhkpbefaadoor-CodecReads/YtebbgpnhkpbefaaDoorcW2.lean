/- A text, a hash and a number of a width are put behind what a writer has; what it tells. -/
import Derived.Test.YtebbgpnhkpbefaaDoorcWv
import Derived.Laws.IdiomStrings
namespace Go.Proofs.YtebbgpnhkpbefaaDoor
open Go.RowKit Go.Lib
set_option linter.unusedVariables false
set_option linter.unusedSimpArgs false
theorem strCells_bc (s : ByteArray) : strCells s = bc s.data.toList := by unfold strCells bc; rfl

set_option maxRecDepth 100000 in
set_option maxHeartbeats 1000000 in
theorem wtext (b : Nat) (v : Value) (l : List UInt8) (s : ByteArray) (w : World) (h : Wr w b v l) (hs : s.size ≤ 70000000000000) (hl : l.length ≤ 1000000000000) :
    Calls Tryd.prog 37 #[.pointer (some ⟨b, 0, none⟩), .string s] w fun e w' => e = .returned (.tuple #[]) ∧ ∃ v', Wr w' b v' (l ++ (varB s.size ++ s.data.toList)) ∧ Fr (WS b) w w' := by
  have h0 := (cell_of h.blk 0).trans (show _ = some (Value.bool true) from rfl)
  have hten := varB_ten s.size (by omega)
  obtain ⟨i0, hi, hz0, hz1, hz2⟩ := info_parts8
  go_enter Tryd.func37, Tryd.ntmps37
  go_wp2_with (first
    | (go_at_call 58; refine (there_yes b _ h0).mono ?_; rintro e w' ⟨rfl, rfl⟩)
    | (go_at_call 35; refine (wvar b v l s.size _ h (by omega) hl).mono ?_; rintro e w2 ⟨rfl, v2, h2, hf2⟩; have c1 := (cell_of h2.blk 1).trans (show _ = some v2 from rfl); have hsz := heap_lt h2.blk; have hlen : (l ++ varB s.size).length ≤ 1000000000010 := by simp only [List.length_append]; omega)
    | (at_builtin; refine wpList_append_own_string _ rfl _ _ 53 9 rfl (b + 1) 5 i0 Tryd.underlying53 Tryd.underlying9 hi hz0 hz1 hz2 _ _ _ rfl h2.own s rfl (by unfold maxLen; omega) (by omega) (by omega) ?_; intro v' w1 hown' hgrow _; obtain ⟨ga, gk, gc, rfl⟩ := ownsRow_form hown'; obtain ⟨hq1, hq2⟩ := h2.at1 (Fr.refl _ _) hgrow))
  obtain ⟨hw, hfr⟩ := h2.put (xs := s.data.toList) (Fr.refl _ _) (by rw [strCells_bc] at hown'; exact hown') (by simp) hgrow
  go_end0
  exact ⟨rfl, _, by rw [← List.append_assoc]; exact hw, hf2.trans hfr (fun _ _ q => q)⟩

theorem conv_nil (w : World) : (convert 53 9 (.slice none 0 0)).run Tryd.prog w = .ok (.string ⟨#[]⟩) w := by kernel_rfl
theorem wdone (b : Nat) (v : Value) (l : List UInt8) (w : World) (h : Wr w b v l) :
    Calls Tryd.prog 38 #[.pointer (some ⟨b, 0, none⟩)] w fun e w' => e = .returned (.string ⟨l.toArray⟩) ∧ w' = w := by
  have h0 := (cell_of h.blk 0).trans (show _ = some (Value.bool true) from rfl)
  have c1 := (cell_of h.blk 1).trans (show _ = some v from rfl)
  have hc : (convert 53 9 v).run Tryd.prog w = .ok (.string ⟨l.toArray⟩) w := by
    rcases h.own.2 with ⟨rfl, hn⟩ | ⟨g, cap, cur, rfl, _⟩
    · have : l = [] := List.eq_nil_of_length_eq_zero hn
      subst this
      exact conv_nil w
    · refine run_convert_bytes_back w _ _ _ _ _ _ Tryd.underlying53 Tryd.underlying5 Tryd.underlying9 (fun j hj => ?_)
      exact h.own.cells (g := g) rfl j _ (by simp [bc, hj])
  go_enter Tryd.func38, Tryd.ntmps38
  go_wp2_with (go_at_call 58; refine (there_yes b _ h0).mono ?_; rintro e w' ⟨rfl, rfl⟩)
  go_ret
  exact ⟨rfl, rfl⟩
theorem wdone_nil (w : World) :
    Calls Tryd.prog 38 #[.pointer none] w fun e w' => e = .returned (.string ⟨#[]⟩) ∧ w' = w := by
  go_enter Tryd.func38, Tryd.ntmps38
  go_wp2_with (go_at_call 58; refine (there_nil _).mono ?_; rintro e w' ⟨rfl, rfl⟩)
  go_ret
  exact ⟨rfl, rfl⟩

/-- An append to memory of the call's own, as one step of a statement whose order is drawn. -/
theorem step_append_own {P : Program} {ops : Array Oper} {o : Oper} {a : Act} {w : World} {K : Act → World → Prop} {Q : Exit → Act → World → Prop} {E : Prop}
    (hg : o.guard = none) (s x : Operand) (t : TypeId) (hop : o.op = Op.call { callee := Callee.builtin Builtin.append, args := #[s, x], argTypes := #[t, t] })
    (base : Nat) (e : TypeId) (i : TypeInfo) (z : Value) (size bytes : Nat) (ht : P.underlying t = some (.slice e)) (hi : P.info? e = some i) (hz : i.zero = some z) (hsize : i.size = size) (hby : i.bytes = bytes) (hzs : z.cells.size = size) (hsz : 0 < size)
    (v : Value) (n : Nat) (xs : List Value) (hs : a.eval s = v) (hown : w.ownsRow base e size v n xs)
    (ad : Addr) (m c : Nat) (news : List Value) (hx : a.eval x = .slice (some ad) m c) (hl : news.length = m * size) (hnews : ∀ j u, news[j]? = some u → w.cell? (ad.add j) = some u) (h1 : ∀ u ∈ news, u.oneCell' = true)
    (h63 : n + m ≤ maxLen) (hbytes : (n + m) * bytes ≤ 140737488355328) (hbase : base ≤ w.heap.size)
    (hK : ∀ v' w', w'.ownsRow base e size v' (n + m) (xs ++ news) → w.grownBy w' v.ownBlock → K (a.put o.dst v') w') :
    if Region.wanted o (yielded ops a.tmps) = true then Oper.wp P o a w K Q else E := by
  have hw : Region.wanted o (yielded ops a.tmps) = true := by simp [Region.wanted, hg]
  rw [if_pos hw]
  exact wp_append_own w s x t hop base e i z size bytes ht hi hz hsize hby hzs hsz v n xs hs hown ad m c news hx hl hnews h1 h63 hbytes hbase (fun v' w' p q _ => hK v' w' p q)
end Go.Proofs.YtebbgpnhkpbefaaDoor
