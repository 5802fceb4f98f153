/- An append to one's own bytes ends in the block where they lay, or in a new one. -/
import Derived.Test.YtebbgpnhkpbefaaDoorcW2
namespace Go.Proofs.YtebbgpnhkpbefaaDoor
open Go.RowKit Go.Lib
set_option linter.unusedVariables false
set_option linter.unusedSimpArgs false

/-- The old block, or a new one. -/
def WN (w : World) (v v' : Value) : Prop := v'.ownBlock = v.ownBlock ∨ ∀ g, v'.ownBlock = some g → w.heap.size ≤ g

theorem append_wn {P : Program} (w : World) (base : Nat) (t tx ty e : TypeId) (i : TypeInfo) (z : Value) (ht : P.underlying t = some (.slice e)) (hi : P.info? e = some i) (hz : i.zero = some z) (hs1 : i.size = 1) (hb1 : i.bytes = 1)
    (v : Value) (n : Nat) (xs : List Value) (hown : w.ownsRow base e 1 v n xs) (x : Value) (m : Nat) (news : List Value) (hsrc : Src P i.size tx x m news w) (h63 : n + m ≤ maxLen) (hbytes : n + m ≤ 140737488355328)
    {v' : Value} {w' : World} (hrun : (Builtin.append_ #[t, tx] ty #[v, x]).run P w = .ok v' w') : WN w v v' := by
  have h63' : ((n + m : Nat) : Int) ≤ 9223372036854775807 := by unfold maxLen at h63; omega
  rcases hown.2 with ⟨rfl, rfl⟩ | ⟨g, cap, cur, rfl, hbg, hg, hnc, hcm, hcs, htake⟩
  · by_cases hm : m = 0
    · subst hm
      left
      have hn0 : news = [] := List.eq_nil_of_length_eq_zero (by simpa using hsrc.newsLen)
      subst hn0
      have hr : (Builtin.append_ #[t, tx] ty #[.slice none 0 0, x]).run P w = .ok (.slice none 0 0) w := by
        rcases hsrc.kind with ⟨e', hk⟩ | hk <;> simp [Builtin.append_, run_underlying ht, run_underlying hk, sizeOf, typeInfo, hi, hsrc.len, hsrc.cells, storeCells]
      rw [hr] at hrun
      cases hrun
      rfl
    · right
      have hr := run_append_grow_src (P := P) w t tx ty e i z ht hi hz none 0 0 [] (run_firstCells_none w.drew i.size 0 0 0) x m news hsrc (by omega) (by simpa using h63') (by rw [hb1]; exact growslice_fits (by omega) (by omega))
      rw [hr] at hrun
      cases hrun
      intro g hg
      simp [Value.ownBlock] at hg
      omega
  · by_cases hroom : n + m ≤ cap
    · left
      have hr := run_append_room_src (P := P) w t tx ty e i ht hi g 0 n cap x m news hsrc hroom (fun j hj => by
        rw [hs1, cell_of hg]
        have : news.length = m * i.size := hsrc.newsLen
        rw [hs1] at this
        simp
        omega) (fun j hj => frozen_of hg _)
      rw [hr] at hrun
      cases hrun
      rfl
    · right
      have hold : (Builtin.firstCells i.size n (.slice (some ⟨g, 0, none⟩) n cap)).run P w.drew = .ok xs.toArray w.drew := by
        rw [hs1]
        exact run_firstCells_some w.drew 1 n ⟨g, 0, none⟩ n cap xs hown.1 (hown.cells (g := g) rfl)
      have hr := run_append_grow_src (P := P) w t tx ty e i z ht hi hz (some ⟨g, 0, none⟩) n cap xs hold x m news hsrc (by omega) h63' (by rw [hb1]; exact growslice_fits (by omega) (by omega))
      rw [hr] at hrun
      cases hrun
      intro g' hg'
      simp [Value.ownBlock] at hg'
      omega
end Go.Proofs.YtebbgpnhkpbefaaDoor
