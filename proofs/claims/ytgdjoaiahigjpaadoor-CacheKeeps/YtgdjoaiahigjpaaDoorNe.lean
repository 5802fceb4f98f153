/- CacheKeeps, for every capacity. -/
import Derived.Test.YtgdjoaiahigjpaaDoorNd
namespace Go.Proofs.YtgdjoaiahigjpaaDoor
open Go.RowKit Go.Maps
open CS hiding tA tB tC
theorem keeps13_any {B : Nat} {w : World} {a : Nat → Addr} (hS : Sent B w a) (cap : Int) (h0 : -9223372036854775808 ≤ cap) (h1 : cap ≤ 9223372036854775807) {q : Option Addr} {U : List UT} (hU : Uses w q U) (hl : (∀ x ∈ U, x.1.size ≤ 140737488355328) ∧ U.length ≤ 140737488355328) (c : Nat) :
    Calls Tryd.prog 3 #[.int .i64 cap, .slice q U.length c] w fun e w' => e = .returned (.bool true) ∧ Nw w w' := by
  by_cases hc : cap < 0 ∨ 1024 < cap
  · exact keeps_bad hS cap hc _
  · obtain ⟨n, rfl⟩ : ∃ n : Nat, cap = n := ⟨cap.toNat, by omega⟩
    exact keeps_good n (by omega) hU hl c
end Go.Proofs.YtgdjoaiahigjpaaDoor
