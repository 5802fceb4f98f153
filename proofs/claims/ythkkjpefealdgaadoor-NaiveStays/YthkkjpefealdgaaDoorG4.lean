/- What Path, Proof and Batch answer is kept while a log goes on. -/
import Derived.Test.YthkkjpefealdgaaDoorG3
namespace Go.Proofs.YthkkjpefealdgaaDoor
open Go.RowKit
set_option linter.unusedVariables false
set_option linter.unusedSimpArgs false

/-- A row of hashes that was made between two worlds is there wherever what was made is left. -/
def Kpt (w w' : World) (v : Value) (l : List (List UInt8)) : Prop := ∀ W, (∀ k, w.heap.size ≤ k → k < w'.heap.size → W.heap[k]? = w'.heap[k]?) → Hss W v l
theorem Kpt.hss {w w' : World} {v : Value} {l : List (List UInt8)} (h : Kpt w w' v l) {W : World} (n : Nw w' W) : Hss W v l := h W (fun k _ hk => n.block k hk (fun f => f))
theorem Kpt.here {w w' : World} {v : Value} {l : List (List UInt8)} (h : Kpt w w' v l) : Hss w' v l := h w' (fun k _ hk => rfl)
theorem Kpt.fr {w w' W0 W : World} {v : Value} {l : List (List UInt8)} {H : Nat} (h : Kpt w w' v l) (hH : H ≤ w.heap.size) (n : Nw w' W0) (f : Fr (fun k => k < H) W0 W) : Hss W v l := h W (fun k h1 h2 => (f.block k (Nat.lt_of_lt_of_le h2 n.size) (by omega)).trans (n.block k h2 (fun f => f)))

theorem Path_k {w : World} {b base : Nat} {v : Value} {L : List ByteArray} (h : Lg w b base v L) (i n : Nat) (hi : i < 18446744073709551616) (hn : n < 18446744073709551616) (hL : Laid w) {B : Nat} {a : Nat → Addr} (hS : Sent B w a) :
    Calls Tryd.prog 18 #[.pointer (some ⟨b, 0, none⟩), .int .u64 (i : Int), .int .u64 (n : Int)] w fun e w' => ∃ v, e = .returned (.tuple #[v, ev a (decide ((i < n) ∧ n ≤ L.length))]) ∧ Kpt w w' v ((TP L i n).map (hst L)) ∧ Nw w w' := by
  refine (Path_any h i n hi hn hL hS).mono ?_
  intro e w' he
  unfold TP
  by_cases hc : (i < n) ∧ n ≤ L.length
  · rw [if_pos hc] at he
    obtain ⟨u, rfl, ho, hn⟩ := he
    refine ⟨u, by rw [decide_eq_true hc, ev_t], ?_, hn⟩
    rw [if_pos hc]
    intro W hW
    exact Hss.of (map32 _ _) (by rw [List.length_map]; exact ownsRow_keep ho (fun g hg => hW g (ho.lt g hg).1 (ho.lt g hg).2))
  · rw [if_neg hc] at he
    obtain ⟨rfl, hn⟩ := he
    refine ⟨_, by rw [decide_eq_false hc, ev_f], ?_, hn⟩
    rw [if_neg hc]
    exact fun W _ => Hss.nil W
/-- Later leaves turn nothing. -/
theorem TP_app {L M : List ByteArray} (i n : Nat) (hn : n ≤ L.length) : TP (L ++ M) i n = TP L i n ∧ (TP (L ++ M) i n).map (hst (L ++ M)) = (TP L i n).map (hst L) ∧ decide ((i < n) ∧ n ≤ (L ++ M).length) = decide ((i < n) ∧ n ≤ L.length) := by
  have e : TP (L ++ M) i n = TP L i n := by
    unfold TP
    rw [List.length_append]
    by_cases hc : i < n
    · rw [if_pos ⟨hc, by omega⟩, if_pos ⟨hc, hn⟩]
    · rw [if_neg (fun q => hc q.1), if_neg (fun q => hc q.1)]
  refine ⟨e, ?_, ?_⟩
  · rw [e]
    refine List.map_congr_left (fun t ht => hst_app ?_)
    exact (TP_fit L i n t ht).2.2
  · rw [List.length_append]
    by_cases hc : i < n
    · rw [decide_eq_true (show (i < n) ∧ n ≤ L.length + M.length from ⟨hc, by omega⟩), decide_eq_true (show (i < n) ∧ n ≤ L.length from ⟨hc, hn⟩)]
    · rw [decide_eq_false (fun q => hc q.1), decide_eq_false (fun q => hc q.1)]

theorem Proof_k {w : World} {b base : Nat} {v : Value} {L : List ByteArray} (h : Lg w b base v L) (i n : Nat) (hi : i < 18446744073709551616) (hn : n < 18446744073709551616) (hL : Laid w) {B : Nat} {a : Nat → Addr} (hS : Sent B w a) :
    Calls Tryd.prog 19 #[.pointer (some ⟨b, 0, none⟩), .int .u64 (i : Int), .int .u64 (n : Int)] w fun e w' => ∃ v, e = .returned (.tuple #[v, ev a (decide ((0 < i ∧ i ≤ n) ∧ n ≤ L.length))]) ∧ Kpt w w' v ((TR L i n).map (hst L)) ∧ Nw w w' := by
  refine (Proof_any h i n hi hn hL hS).mono ?_
  intro e w' he
  unfold TR
  by_cases hc : (0 < i ∧ i ≤ n) ∧ n ≤ L.length
  · rw [if_pos hc] at he
    obtain ⟨u, rfl, ho, hn⟩ := he
    refine ⟨u, by rw [decide_eq_true hc, ev_t], ?_, hn⟩
    rw [if_pos hc]
    intro W hW
    exact Hss.of (map32 _ _) (by rw [List.length_map]; exact ownsRow_keep ho (fun g hg => hW g (ho.lt g hg).1 (ho.lt g hg).2))
  · rw [if_neg hc] at he
    obtain ⟨rfl, hn⟩ := he
    refine ⟨_, by rw [decide_eq_false hc, ev_f], ?_, hn⟩
    rw [if_neg hc]
    exact fun W _ => Hss.nil W
/-- Later leaves turn nothing. -/
theorem TR_app {L M : List ByteArray} (i n : Nat) (hn : n ≤ L.length) : TR (L ++ M) i n = TR L i n ∧ (TR (L ++ M) i n).map (hst (L ++ M)) = (TR L i n).map (hst L) ∧ decide ((0 < i ∧ i ≤ n) ∧ n ≤ (L ++ M).length) = decide ((0 < i ∧ i ≤ n) ∧ n ≤ L.length) := by
  have e : TR (L ++ M) i n = TR L i n := by
    unfold TR
    rw [List.length_append]
    by_cases hc : 0 < i ∧ i ≤ n
    · rw [if_pos ⟨hc, by omega⟩, if_pos ⟨hc, hn⟩]
    · rw [if_neg (fun q => hc q.1), if_neg (fun q => hc q.1)]
  refine ⟨e, ?_, ?_⟩
  · rw [e]
    refine List.map_congr_left (fun t ht => hst_app ?_)
    exact (TR_fit L i n t ht).2.2
  · rw [List.length_append]
    by_cases hc : 0 < i ∧ i ≤ n
    · rw [decide_eq_true (show (0 < i ∧ i ≤ n) ∧ n ≤ L.length + M.length from ⟨hc, by omega⟩), decide_eq_true (show (0 < i ∧ i ≤ n) ∧ n ≤ L.length from ⟨hc, hn⟩)]
    · rw [decide_eq_false (fun q => hc q.1), decide_eq_false (fun q => hc q.1)]

theorem Batch_k {w : World} {b base : Nat} {v : Value} {L : List ByteArray} (h : Lg w b base v L) (x y n : Nat) (hx : x < 18446744073709551616) (hy : y < 18446744073709551616) (hn : n < 18446744073709551616) (hL : Laid w) {B : Nat} {a : Nat → Addr} (hS : Sent B w a) :
    Calls Tryd.prog 20 #[.pointer (some ⟨b, 0, none⟩), .int .u64 (x : Int), .int .u64 (y : Int), .int .u64 (n : Int)] w fun e w' => ∃ v, e = .returned (.tuple #[v, ev a (decide ((x < y ∧ y ≤ n) ∧ n ≤ L.length))]) ∧ Kpt w w' v ((TB L x y n).map (hst L)) ∧ Nw w w' := by
  refine (Batch_any h x y n hx hy hn hL hS).mono ?_
  intro e w' he
  unfold TB
  by_cases hc : (x < y ∧ y ≤ n) ∧ n ≤ L.length
  · rw [if_pos hc] at he
    obtain ⟨u, rfl, ho, hn⟩ := he
    refine ⟨u, by rw [decide_eq_true hc, ev_t], ?_, hn⟩
    rw [if_pos hc]
    intro W hW
    exact Hss.of (map32 _ _) (by rw [List.length_map]; exact ownsRow_keep ho (fun g hg => hW g (ho.lt g hg).1 (ho.lt g hg).2))
  · rw [if_neg hc] at he
    obtain ⟨rfl, hn⟩ := he
    refine ⟨_, by rw [decide_eq_false hc, ev_f], ?_, hn⟩
    rw [if_neg hc]
    exact fun W _ => Hss.nil W
/-- Later leaves turn nothing. -/
theorem TB_app {L M : List ByteArray} (x y n : Nat) (hn : n ≤ L.length) : TB (L ++ M) x y n = TB L x y n ∧ (TB (L ++ M) x y n).map (hst (L ++ M)) = (TB L x y n).map (hst L) ∧ decide ((x < y ∧ y ≤ n) ∧ n ≤ (L ++ M).length) = decide ((x < y ∧ y ≤ n) ∧ n ≤ L.length) := by
  have e : TB (L ++ M) x y n = TB L x y n := by
    unfold TB
    rw [List.length_append]
    by_cases hc : x < y ∧ y ≤ n
    · rw [if_pos ⟨hc, by omega⟩, if_pos ⟨hc, hn⟩]
    · rw [if_neg (fun q => hc q.1), if_neg (fun q => hc q.1)]
  refine ⟨e, ?_, ?_⟩
  · rw [e]
    refine List.map_congr_left (fun t ht => hst_app ?_)
    exact (TB_fit L x y n t ht).2.2
  · rw [List.length_append]
    by_cases hc : x < y ∧ y ≤ n
    · rw [decide_eq_true (show (x < y ∧ y ≤ n) ∧ n ≤ L.length + M.length from ⟨hc, by omega⟩), decide_eq_true (show (x < y ∧ y ≤ n) ∧ n ≤ L.length from ⟨hc, hn⟩)]
    · rw [decide_eq_false (fun q => hc q.1), decide_eq_false (fun q => hc q.1)]

theorem kstep_pre (L : List ByteArray) : ∀ (ms M : List ByteArray), ∃ N, ms.foldl kstep (L ++ M) = L ++ N
  | [], M => ⟨M, rfl⟩
  | x :: ms, M => by
    rw [List.foldl_cons]
    unfold kstep
    split
    · exact kstep_pre L ms M
    · rw [List.append_assoc]; exact kstep_pre L ms (M ++ [x])
/-- What is appended behind. -/
def kq (L ms : List ByteArray) : List ByteArray := ms.foldl kstep L
theorem kq_pre (L ms : List ByteArray) : ∃ N, kq L ms = L ++ N := by
  have := kstep_pre L ms []
  rwa [List.append_nil] at this
theorem kq_step {L ss : List ByteArray} {k : Nat} {x : ByteArray} (h : ss[k]? = some x) : kq L (ss.take (k + 1)) = kstep (kq L (ss.take k)) x := by
  unfold kq
  rw [List.take_add_one, h, Option.toList_some, List.foldl_append]; rfl
/-- Append, whatever comes: the log has it, or it is as it was. -/
theorem append_k {w : World} {b base : Nat} {v : Value} {L : List ByteArray} (h : Lg w b base v L) (s : ByteArray) (hs : s.size < 9223372036854775807) {B : Nat} {a : Nat → Addr} (hS : Sent B w a) :
    Calls Tryd.prog 26 #[.pointer (some ⟨b, 0, none⟩), .string s] w fun e w' => (∃ x y, e = .returned (.tuple #[x, y])) ∧ ∃ v', Lg w' b base v' (kstep L s) ∧ Stays w v v' ∧ Fr (fun k => k = b ∨ v.ownBlock = some k) w w' := by
  by_cases hb : 65536 < s.size ∨ 1048576 ≤ L.length
  · refine (append_lim h s hs hb hS).mono ?_
    rintro e w' ⟨rfl, n⟩
    refine ⟨⟨_, _, rfl⟩, v, ?_, Stays.refl _ _, n.mono (fun _ _ f => f.elim)⟩
    rw [kstep, if_pos hb]; exact h.nw n
  · refine (append_yes h s (by omega) (by omega)).mono ?_
    rintro e w' ⟨rfl, v', l, st, f⟩
    refine ⟨⟨_, _, rfl⟩, v', ?_, st, f⟩
    rw [kstep, if_neg hb]; exact l
end Go.Proofs.YthkkjpefealdgaaDoor
