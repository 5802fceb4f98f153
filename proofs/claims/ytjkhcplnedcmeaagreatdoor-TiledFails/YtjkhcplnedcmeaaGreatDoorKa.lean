/- cache: the ring of places, by lists alone. -/
import Derived.Test.YtjkhcplnedcmeaaGreatDoorAg
namespace Go.Proofs.YtjkhcplnedcmeaaGreatDoor
set_option linter.unusedVariables false
set_option linter.unusedSimpArgs false
/-- A function turned at one place. -/
def up {α : Type} (f : Nat → α) (i : Nat) (v : α) : Nat → α := fun j => if j = i then v else f j
theorem up_same {α : Type} (f : Nat → α) (i : Nat) (v : α) : up f i v i = v := by simp [up]
theorem up_ne {α : Type} (f : Nat → α) {i j : Nat} (v : α) (h : j ≠ i) : up f i v j = f j := by simp [up, h]
/-- Each one's older one is the next, and the next one's newer one is it. -/
def Ch (nw od : Nat → Nat) : List Nat → Prop
  | x :: y :: l => od x = y ∧ nw y = x ∧ Ch nw od (y :: l)
  | _ => True
theorem ch_split (nw od : Nat → Nat) (x : Nat) (B : List Nat) : ∀ A, Ch nw od (A ++ x :: B) ↔ Ch nw od (A ++ [x]) ∧ Ch nw od (x :: B)
  | [] => by simp [Ch]
  | [a] => by simp [Ch, and_assoc]
  | a :: b :: A => by
    have := ch_split nw od x B (b :: A)
    simp only [List.cons_append, Ch] at this ⊢
    rw [this]
    simp [and_assoc]
theorem ch_frame {nw od nw' od' : Nat → Nat} : ∀ l, Ch nw od l → (∀ a ∈ l.dropLast, od' a = od a) → (∀ a ∈ l.tail, nw' a = nw a) → Ch nw' od' l
  | [], _, _, _ => trivial
  | [a], _, _, _ => trivial
  | x :: y :: l, h, h1, h2 => by
    obtain ⟨e1, e2, e3⟩ := h
    refine ⟨(h1 x (by simp)).trans e1, (h2 y (by simp)).trans e2, ch_frame (y :: l) e3 (fun a ha => h1 a (by simp [ha])) (fun a ha => h2 a (by simp at ha ⊢; exact .inr ha))⟩
/-- The ring: from place 0 over the places of O, the newest first, to place 0. -/
def Ring (nw od : Nat → Nat) (O : List Nat) : Prop := Ch nw od (0 :: (O ++ [0])) ∧ (0 :: O).Nodup
/-- A place among those of a ring, with its neighbours. -/
theorem ring_at {A B : List Nat} : ∃ X x y Y, 0 :: A = X ++ [x] ∧ B ++ [0] = y :: Y := by
  have h1 : ∃ X x, 0 :: A = X ++ [x] := ⟨(0 :: A).dropLast, (0 :: A).getLast (by simp), (List.dropLast_concat_getLast (by simp)).symm⟩
  obtain ⟨X, x, h1⟩ := h1
  cases hB : B ++ [0] with
  | nil => simp at hB
  | cons y Y => exact ⟨X, x, y, Y, h1, rfl⟩
theorem ring_mid {nw od : Nat → Nat} {A B : List Nat} {p : Nat} (h : Ring nw od (A ++ p :: B)) {X : List Nat} {x y : Nat} {Y : List Nat} (e1 : 0 :: A = X ++ [x]) (e2 : B ++ [0] = y :: Y) :
    od x = p ∧ nw p = x ∧ od p = y ∧ nw y = p ∧ Ch nw od (X ++ [x]) ∧ Ch nw od (y :: Y) := by
  have h1 := h.1
  have e : 0 :: ((A ++ p :: B) ++ [0]) = (X ++ [x]) ++ p :: (y :: Y) := by rw [← e1, ← e2]; simp
  rw [e, ch_split] at h1
  obtain ⟨h2, h3⟩ := h1
  rw [List.append_assoc, List.singleton_append, ch_split] at h2
  obtain ⟨h4, h5⟩ := h2
  exact ⟨h5.1, h5.2.1, h3.1, h3.2.1, h4, h3.2.2⟩
theorem ends_facts {A B : List Nat} {p : Nat} (h : (0 :: (A ++ p :: B)).Nodup) {X : List Nat} {x y : Nat} {Y : List Nat} (e1 : 0 :: A = X ++ [x]) (e2 : B ++ [0] = y :: Y) :
    x ∉ X ∧ (∀ a ∈ A, a ≠ y) ∧ y ∉ Y ∧ (∀ a ∈ B, a ≠ x) ∧ x ≠ p ∧ y ≠ p ∧ (∀ a ∈ X, a ≠ p) ∧ (∀ a ∈ Y, a ≠ p) ∧ (x = 0 ∨ x ∈ A) ∧ (y = 0 ∨ y ∈ B) := by
  have hx : x ∈ 0 :: A := by rw [e1]; simp
  have hy : y ∈ B ++ [0] := by rw [e2]; simp
  have nA : (0 :: A).Nodup := by
    simp only [List.nodup_cons, List.mem_append, List.mem_cons, List.nodup_append] at h ⊢
    exact ⟨fun q => h.1 (.inl q), h.2.1⟩
  have nB : (B ++ [0]).Nodup := by
    simp only [List.nodup_cons, List.mem_append, List.mem_cons, List.nodup_append] at h ⊢
    refine ⟨h.2.2.1.2, by simp, fun a ha b hb => ?_⟩
    simp at hb
    rintro rfl
    exact h.1 (.inr (.inr (hb ▸ ha)))
  have mX : ∀ a ∈ X, a ∈ 0 :: A := fun a ha => by rw [e1]; simp [ha]
  have mY : ∀ a ∈ Y, a ∈ B ++ [0] := fun a ha => by rw [e2]; simp [ha]
  rw [e1] at nA
  rw [e2] at nB
  simp only [List.nodup_append, List.nodup_cons, List.mem_append, List.mem_cons] at h nA nB hx hy mX mY
  simp only [List.not_mem_nil, or_false] at hx hy mX mY
  refine ⟨fun q => nA.2.2 x q x (by simp) rfl, ?_, nB.1, ?_, ?_, ?_, ?_, ?_, hx, hy.symm⟩
  all_goals grind
/-- unlink. -/
theorem ring_unlink {nw od : Nat → Nat} {A B : List Nat} {p : Nat} (h : Ring nw od (A ++ p :: B)) : Ring (up nw (od p) (nw p)) (up od (nw p) (od p)) (A ++ B) := by
  obtain ⟨X, x, y, Y, e1, e2⟩ := ring_at (A := A) (B := B)
  obtain ⟨h1, h2, h3, h4, h5, h6⟩ := ring_mid h e1 e2
  obtain ⟨f1, f2, f3, f4, f5, f6, f7, f8, f9, f10⟩ := ends_facts h.2 e1 e2
  rw [h3, h2]
  constructor
  · have e : 0 :: ((A ++ B) ++ [0]) = X ++ x :: (y :: Y) := by
      rw [List.append_assoc, e2, ← List.cons_append, e1]; simp
    rw [e, ch_split]
    refine ⟨ch_frame _ h5 (fun a ha => up_ne _ _ ?_) (fun a ha => up_ne _ _ ?_), by rw [up_same], by rw [up_same], ch_frame _ h6 (fun a ha => up_ne _ _ ?_) (fun a ha => up_ne _ _ ?_)⟩
    · simp at ha; rintro rfl; exact f1 ha
    · rw [← e1] at ha; exact f2 a (by simpa using ha)
    · rw [← e2] at ha; exact f4 a (by simpa using ha)
    · rintro rfl; exact f3 (by simpa using ha)
  · have := h.2
    simp only [List.nodup_cons, List.mem_append, List.mem_cons, List.nodup_append] at this ⊢
    grind
/-- lead. -/
theorem ring_lead {nw od : Nat → Nat} {O : List Nat} {p : Nat} (h : Ring nw od O) (h0 : p ≠ 0) (hp : p ∉ O) : Ring (up (up nw p 0) (od 0) p) (up (up od p (od 0)) 0 p) (p :: O) := by
  obtain ⟨h1, h2⟩ := h
  cases hY : O ++ [0] with
  | nil => simp at hY
  | cons y Y =>
    rw [hY] at h1
    obtain ⟨a1, a2, a3⟩ := h1
    have hy : y = 0 ∨ y ∈ O := by
      have : y ∈ O ++ [0] := by rw [hY]; simp
      simpa [or_comm] using this
    have hyp : y ≠ p := by rintro rfl; rcases hy with e | e; exact h0 e; exact hp e
    have nB : (O ++ [0]).Nodup := by
      simp only [List.nodup_cons, List.nodup_append] at h2 ⊢
      grind
    have mY : ∀ a ∈ Y, a = 0 ∨ a ∈ O := fun a ha => by
      have : a ∈ O ++ [0] := by rw [hY]; simp [ha]
      simpa [or_comm] using this
    rw [a1]
    constructor
    · rw [List.cons_append, hY]
      refine ⟨up_same _ _ _, ?_, ?_, up_same _ _ _, ch_frame _ a3 (fun a ha => ?_) (fun a ha => ?_)⟩
      · rw [up_ne _ _ (Ne.symm hyp), up_same]
      · rw [up_ne _ _ h0, up_same]
      · rw [← hY] at ha
        have ha : a ∈ O := by simpa using ha
        rw [up_ne, up_ne]
        · rintro rfl; exact hp ha
        · rintro rfl; simp at h2; exact h2.1 ha
      · have ha : a ∈ Y := by simpa using ha
        rw [hY] at nB
        rw [up_ne, up_ne]
        · rintro rfl; rcases mY _ ha with e | e; exact h0 e; exact hp e
        · rintro rfl; simp at nB; exact nB.1 ha
    · simp only [List.nodup_cons, List.mem_cons] at h2 ⊢
      grind
/-- The last one takes the place p, which is free. -/
theorem ring_move {nw od : Nat → Nat} {A B : List Nat} {q p : Nat} (h : Ring nw od (A ++ q :: B)) (h0 : p ≠ 0) (hp : p ∉ A ++ q :: B) :
    Ring (up (up nw p (nw q)) (od q) p) (up (up od p (od q)) (nw q) p) (A ++ p :: B) := by
  obtain ⟨X, x, y, Y, e1, e2⟩ := ring_at (A := A) (B := B)
  obtain ⟨h1, h2, h3, h4, h5, h6⟩ := ring_mid h e1 e2
  obtain ⟨f1, f2, f3, f4, f5, f6, f7, f8, f9, f10⟩ := ends_facts h.2 e1 e2
  rw [h3, h2]
  have hpA : p ∉ A := fun q => hp (by simp [q])
  have hpB : p ∉ B := fun q => hp (by simp [q])
  have hxp : x ≠ p := by rintro rfl; rcases f9 with e | e; exact h0 e; exact hpA e
  have hyp : y ≠ p := by rintro rfl; rcases f10 with e | e; exact h0 e; exact hpB e
  constructor
  · have e : 0 :: ((A ++ p :: B) ++ [0]) = (X ++ [x]) ++ p :: (y :: Y) := by rw [← e1, ← e2]; simp
    rw [e, ch_split, List.append_assoc, List.singleton_append, ch_split]
    refine ⟨⟨ch_frame _ h5 (fun a ha => ?_) (fun a ha => ?_), up_same _ _ _, ?_, trivial⟩, ?_, up_same _ _ _, ch_frame _ h6 (fun a ha => ?_) (fun a ha => ?_)⟩
    · have ha : a ∈ X := by simpa using ha
      have : a ∈ 0 :: A := by rw [e1]; simp [ha]
      have u1 : a ≠ p := by rintro rfl; simp at this; rcases this with e | e; exact h0 e; exact hpA e
      have u2 : a ≠ x := fun e => f1 (e ▸ ha)
      rw [up_ne _ _ u2, up_ne _ _ u1]
    · rw [← e1] at ha
      have ha : a ∈ A := by simpa using ha
      rw [up_ne _ _ (f2 a ha), up_ne]
      rintro rfl; exact hpA ha
    · rw [up_ne _ _ (Ne.symm hyp), up_same]
    · rw [up_ne _ _ (Ne.symm hxp), up_same]
    · rw [← e2] at ha
      have ha : a ∈ B := by simpa using ha
      rw [up_ne _ _ (f4 a ha), up_ne]
      rintro rfl; exact hpB ha
    · have ha : a ∈ Y := by simpa using ha
      have : a ∈ B ++ [0] := by rw [e2]; simp [ha]
      rw [up_ne, up_ne]
      · rintro rfl; simp at this; rcases this with e | e; exact hpB e; exact h0 e
      · rintro rfl; exact f3 ha
  · have := h.2
    simp only [List.nodup_cons, List.mem_append, List.mem_cons, List.nodup_append] at this ⊢
    grind
/-- Neighbours of a place in the ring are places of it, or 0. -/
theorem ring_nb {nw od : Nat → Nat} {O : List Nat} (h : Ring nw od O) {p : Nat} (hp : p = 0 ∨ p ∈ O) : (nw p = 0 ∨ nw p ∈ O) ∧ (od p = 0 ∨ od p ∈ O) := by
  rcases hp with rfl | hp
  · obtain ⟨h1, h2⟩ := h
    cases O with
    | nil => exact ⟨.inl h1.2.1, .inl h1.1⟩
    | cons a O =>
      refine ⟨.inr ?_, .inr (by rw [h1.1]; simp)⟩
      have e : ∃ X x, a :: O = X ++ [x] := ⟨(a :: O).dropLast, (a :: O).getLast (by simp), (List.dropLast_concat_getLast (by simp)).symm⟩
      obtain ⟨X, x, e⟩ := e
      rw [e] at h1 ⊢
      rw [show 0 :: (X ++ [x] ++ [0]) = (0 :: X) ++ x :: [0] by simp, ch_split] at h1
      rw [h1.2.2.1]
      simp
  · obtain ⟨A, B, rfl⟩ := List.append_of_mem hp
    obtain ⟨X, x, y, Y, e1, e2⟩ := ring_at (A := A) (B := B)
    obtain ⟨h1, h2, h3, h4, h5, h6⟩ := ring_mid h e1 e2
    obtain ⟨f1, f2, f3, f4, f5, f6, f7, f8, f9, f10⟩ := ends_facts h.2 e1 e2
    rw [h2, h3]
    constructor
    · rcases f9 with e | e
      · exact .inl e
      · exact .inr (by simp [e])
    · rcases f10 with e | e
      · exact .inl e
      · exact .inr (by simp [e])
/-- The oldest one. -/
theorem ring_last {nw od : Nat → Nat} {O : List Nat} {p : Nat} (h : Ring nw od (O ++ [p])) : nw 0 = p := by
  obtain ⟨h1, _⟩ := h
  rw [show 0 :: (O ++ [p] ++ [0]) = (0 :: O) ++ p :: [0] by simp, ch_split] at h1
  exact h1.2.2.1
end Go.Proofs.YtjkhcplnedcmeaaGreatDoor
