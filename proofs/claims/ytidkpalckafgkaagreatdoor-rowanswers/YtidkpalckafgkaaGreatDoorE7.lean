/- A map gone through in whatever order: what has come, what is left. -/
import Derived.Test.YtidkpalckafgkaaGreatDoorE6
namespace Go.Proofs.YtidkpalckafgkaaGreatDoor.Rw
open Go Go.RowKit Go.Sort Go.Lib Tg Pk Ky Qy

def Ranged (L A : List Item) (left : Lit → Bool) : Prop := A.Nodup ∧ ∀ p, p ∈ A ↔ p ∈ L ∧ left (klit p.win p.key) = false
theorem has_mem {D : DataW Unit} {L : List Item} (hs : Says D L) (hL : Strict L) {p : Item} (hp : p ∈ L) (ho : okP p.win p.key) : Maps.has D (klit p.win p.key) = true := by
  refine Maps.has_true_of_atKey (y := cD p.c) (fun z => ?_)
  rw [hs _ _ ho z, look_mem hL hp]
theorem ranged_start {D : DataW Unit} {L : List Item} (hs : Says D L) (hL : Strict L) (ho : ∀ p ∈ L, okP p.win p.key) : Ranged L [] (Maps.has D) := by
  refine ⟨List.nodup_nil, fun p => ⟨fun h => by simp at h, fun h => ?_⟩⟩
  have := has_mem hs hL h.1 (ho p h.1)
  rw [this] at h
  simp at h
theorem says_mem {D : DataW Unit} {L : List Item} (hs : Says D L) {x : Int} {g : ByteArray} {c : Cl.Cell} (ho : okP x g) (h : ∀ z, D.atKey (klit x g) z = cD c) : (⟨x, g, c⟩ : Item) ∈ L := by
  cases hl : look L x g with
  | none =>
    have h1 := hs x g ho (.map [])
    rw [hl, h] at h1
    cases h1
  | some d =>
    have h1 := hs x g ho (.map [])
    rw [hl, h] at h1
    rw [cD_inj h1]
    exact look_some hl
theorem same_klit {x y : Int} {g h : ByteArray} (hx : okP x g) (hy : okP y h) : (klit x g).sameKey (klit y h) = true ↔ x = y ∧ g = h := by
  constructor
  · intro e
    refine klit_inj hx hy ?_
    by_cases hn : klit x g = klit y h
    · exact hn
    · rw [Maps.sameKey_ne hn] at e; cases e
  · rintro ⟨rfl, rfl⟩
    unfold klit
    simp [Lit.sameKey]
theorem ranged_step {D : DataW Unit} {L A : List Item} {left : Lit → Bool} (hs : Says D L) (hL : Strict L) (ho : ∀ p ∈ L, okP p.win p.key) (hR : Ranged L A left) {x : Int} {g : ByteArray} {c : Cl.Cell} (hx : okP x g) (hl : left (klit x g) = true) (h : ∀ z, D.atKey (klit x g) z = cD c) :
    Ranged L (A ++ [⟨x, g, c⟩]) (fun z => left z && !z.sameKey (klit x g)) := by
  have hm := says_mem hs hx h
  have hn : (⟨x, g, c⟩ : Item) ∉ A := by
    intro e
    have := ((hR.2 _).1 e).2
    simp only at this
    rw [hl] at this
    cases this
  refine ⟨?_, fun p => ?_⟩
  · rw [List.nodup_append]
    refine ⟨hR.1, by simp, ?_⟩
    intro a ha b hb e
    simp at hb
    subst hb
    subst e
    exact hn ha
  · rw [List.mem_append, List.mem_singleton, hR.2 p]
    constructor
    · rintro (⟨h1, h2⟩ | rfl)
      · exact ⟨h1, by show (left _ && _) = false; rw [h2]; rfl⟩
      · refine ⟨hm, ?_⟩
        have := (same_klit hx hx).2 ⟨rfl, rfl⟩
        simp only
        rw [this]
        simp
    · rintro ⟨h1, h2⟩
      simp only [Bool.and_eq_false_iff, Bool.not_eq_false'] at h2
      rcases h2 with h2 | h2
      · exact Or.inl ⟨h1, h2⟩
      · obtain ⟨e1, e2⟩ := (same_klit (ho p h1) hx).1 h2
        right
        have l1 := look_mem hL h1
        have l2 := look_mem hL hm
        simp only at l2
        rw [e1, e2, l2] at l1
        obtain ⟨pw, pk, pc⟩ := p
        simp at e1 e2 l1
        subst e1 e2 l1
        rfl
theorem ranged_end {L A : List Item} {left : Lit → Bool} (hL : Strict L) (hR : Ranged L A left) (h : ∀ k, left k = false) : A.Perm L :=
  (List.perm_ext_iff_of_nodup hR.1 (strict_nodup hL)).2 (fun p => by rw [hR.2 p]; exact ⟨fun e => e.1, fun e => ⟨e, h _⟩⟩)
theorem ranged_len {L A : List Item} {left : Lit → Bool} (hL : Strict L) (hR : Ranged L A left) : A.length ≤ L.length := by
  have hp : A.Perm (L.filter fun p => !left (klit p.win p.key)) := (List.perm_ext_iff_of_nodup hR.1 ((strict_nodup hL).filter _)).2 (fun p => by
    rw [hR.2 p, List.mem_filter]
    simp)
  rw [hp.length_eq]
  exact List.length_filter_le _ _
theorem pairwise_or {α : Type} {R : α → α → Prop} {l : List α} (h : l.Pairwise R) {a b : α} (ha : a ∈ l) (hb : b ∈ l) (hne : a ≠ b) : R a b ∨ R b a := by
  obtain ⟨i, hi, rfl⟩ := List.getElem_of_mem ha
  obtain ⟨j, hj, rfl⟩ := List.getElem_of_mem hb
  have hP := List.pairwise_iff_getElem.1 h
  rcases Nat.lt_trichotomy i j with e | e | e
  · exact Or.inl (hP i j hi hj e)
  · subst e; exact absurd rfl hne
  · exact Or.inr (hP j i hj hi e)

/-- One order alone is right. -/
theorem rows_eq {L : List Item} {R : List Row} {g : Int} (hL : Strict L) (hp : R.Perm (L.map (rowOf g))) (hs : R.Pairwise fun a b => rlt b a = false) : R = L.map (rowOf g) := by
  have hT : (L.map (rowOf g)).Pairwise fun a b => rlt a b = true := List.Pairwise.map _ (fun a b h => h) hL
  have hT2 : (L.map (rowOf g)).Pairwise fun a b => rlt b a = false := hT.imp (fun {a b} h => plt_asymm h)
  refine List.Perm.eq_of_pairwise ?_ hs hT2 hp
  intro a b ha hb h1 h2
  have ha' := hp.mem_iff.1 ha
  by_cases e : a = b
  · exact e
  · exfalso
    rcases pairwise_or hT ha' hb e with h | h
    · rw [h] at h2; cases h2
    · rw [h] at h1; cases h1

end Go.Proofs.YtidkpalckafgkaaGreatDoor.Rw
