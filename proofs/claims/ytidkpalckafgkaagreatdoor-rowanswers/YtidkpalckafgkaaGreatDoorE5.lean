/- The cells that are asked, merged by their places: a walk. -/
import Derived.Test.YtidkpalckafgkaaGreatDoorE4
import Derived.Lib.BufferOwn
namespace Go.Proofs.YtidkpalckafgkaaGreatDoor.Rw
open Go Go.RowKit Go.Sort Go.Lib Tg Pk Ky Qy

/-- Every cell that was there is there. -/
def Keeps (w w' : World) : Prop := w.heap.size ≤ w'.heap.size ∧ ∀ p v, w.cell? p = some v → w'.cell? p = some v
theorem Keeps.refl (w : World) : Keeps w w := ⟨Nat.le_refl _, fun _ _ h => h⟩
theorem Keeps.on {w w1 w2 : World} (h : Keeps w w1) (d : Below w1.heap.size w1 w2) : Keeps w w2 :=
  ⟨Nat.le_trans h.1 d.size, fun p v e => by have := h.2 p v e; rw [d.cell (p := p) (World.block_lt_of_cell? _ _ this)]; exact this⟩
theorem Keeps.far {w w1 w2 : World} {b n : Nat} {L : List Item} (h : Keeps w w1) (hm : MapOf w1 b n L) (g : w1.grownBy w2 (some b)) : Keeps w w2 := by
  refine ⟨Nat.le_trans h.1 g.size, fun p v e => ?_⟩
  have h1 := h.2 p v e
  have hlt := World.block_lt_of_cell? _ _ h1
  have hne : some p.block ≠ some b := by
    rintro e'
    cases e'
    obtain ⟨D, ⟨es, clock, hb, -⟩, -⟩ := hm
    unfold World.cell? at h1
    rw [hb] at h1
    cases h1
  have := g.block p.block hlt hne
  unfold World.cell? at h1 ⊢
  rw [this]
  exact h1

end Go.Proofs.YtidkpalckafgkaaGreatDoor.Rw
