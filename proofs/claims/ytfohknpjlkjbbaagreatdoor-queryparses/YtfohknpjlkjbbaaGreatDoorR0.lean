/- Carried over from earlier layers: walks and lemmas of tags, series and matches. -/
import Derived.Test.YtfohknpjlkjbbaaGreatDoorP2
import Derived.BigQuiet
namespace Go.Proofs.YtfohknpjlkjbbaaGreatDoor
open Go Go.RowKit Tg Pk
/-- The strings l lie in block b from offset o on. -/
def Lies (w : World) (b o : Nat) (l : List ByteArray) : Prop := ∀ (j : Nat) x, l[j]? = some x → w.cell? ⟨b, o + j, none⟩ = some (.string x)
theorem Lies.on {w w1 : World} {b o : Nat} {l : List ByteArray} (h : Lies w b o l) (hb : b < w.heap.size) (n : Below w.heap.size w w1) : Lies w1 b o l := by
  intro j x hx
  rw [n.cell (p := ⟨b, o + j, none⟩) hb]
  exact h j x hx
theorem Lies.alloc {w : World} {b o : Nat} {l : List ByteArray} (h : Lies w b o l) (hb : b < w.heap.size) (ob : Obj) : Lies (w.alloc ob) b o l := h.on hb ((Below.refl _ _).alloc (Nat.le_refl _) _)
/-- The value v is a slice that holds the texts l. -/
def Row (w : World) (v : Value) (l : List ByteArray) : Prop := ∃ a c, v = .slice a l.length c ∧ l.length ≤ c ∧ (l ≠ [] → ∃ b o, a = some ⟨b, o, none⟩ ∧ b < w.heap.size ∧ Lies w b o l)
theorem Row.on {w w1 : World} {v : Value} {l : List ByteArray} (h : Row w v l) (n : Below w.heap.size w w1) : Row w1 v l := by
  obtain ⟨a, c, hv, hc, hl⟩ := h
  refine ⟨a, c, hv, hc, fun hne => ?_⟩
  obtain ⟨b, o, ha, hb, hL⟩ := hl hne
  exact ⟨b, o, ha, Nat.lt_of_lt_of_le hb n.size, hL.on hb n⟩
theorem Lies.at {w : World} {b o : Nat} {l : List ByteArray} (h : Lies w b o l) (k : Nat) (hk : k < l.length) : w.cell? ⟨b, o + k, none⟩ = some (.string l[k]) := h k _ (List.getElem?_eq_getElem hk)
set_option maxHeartbeats 400000 in
theorem sameB_zero (a1 a2 : Option Addr) (c1 c2 : Nat) (w : World) :
    Calls Tryz.prog 39 #[.slice a1 0 c1, .slice a2 0 c2] w fun e w' => e = .returned (.bool true) ∧ w' = w := by
  go_enter Tryz.func39, Tryz.ntmps39
  go_wp2
  refine wp_loop_rounds 1 ?_
  rw [rounds_succ]
  go_wp2
  go_ret
  exact ⟨rfl, rfl⟩
set_option maxHeartbeats 400000 in
theorem sameB_cells (b1 o1 c1 b2 o2 c2 : Nat) (l : List ByteArray) (w : World) (h1 : Lies w b1 o1 l) (h2 : Lies w b2 o2 l) (hn : l.length ≤ 1000000) :
    Calls Tryz.prog 39 #[.slice (some ⟨b1, o1, none⟩) l.length c1, .slice (some ⟨b2, o2, none⟩) l.length c2] w fun e w' => e = .returned (.bool true) ∧ ∃ q, w' = w.drewN q := by
  have H1 := Lib.hid h1
  have H2 := Lib.hid h2
  clear h1 h2
  go_enter Tryz.func39, Tryz.ntmps39
  go_wp2
  go_loopw [5] (fun i wr => ∃ k nq : Nat, k ≤ l.length ∧ i = .int .i64 k ∧ wr = w.drewN nq) (fun i _ => l.length - (intOf i).toNat)
  case atStart => exact ⟨0, 0, Nat.zero_le _, rfl, rfl⟩
  case round =>
    obtain ⟨k, nq, hk, rfl, rfl⟩ := hrel
    by_cases hlt : k < l.length
    · have e1 := H1.out.at k hlt
      have e2 := H2.out.at k hlt
      have i1 : (k : Int) < (l.length : Int) := by omega
      have i2 : (0 : Int) ≤ (k : Int) := by omega
      go_wp2_with fail
      go_quiet (fail)
      go_wp2_with fail
      exact ⟨⟨k + 1, _, by omega, by go_num, rfl⟩, by simp [intOf]; omega⟩
    · go_wp2
      go_ret
      exact ⟨rfl, _, rfl⟩
theorem sameB_any (v1 v2 : Value) (l : List ByteArray) (w : World) (h1 : Row w v1 l) (h2 : Row w v2 l) (hn : l.length ≤ 1000000) :
    Calls Tryz.prog 39 #[v1, v2] w fun e w' => e = .returned (.bool true) ∧ Below w.heap.size w w' := by
  obtain ⟨a1, c1, rfl, hc1, hl1⟩ := h1
  obtain ⟨a2, c2, rfl, hc2, hl2⟩ := h2
  rcases List.eq_nil_or_concat l with hnil | ⟨l0, x0, hcons⟩
  · subst hnil
    exact (sameB_zero a1 a2 c1 c2 w).mono fun e w' ⟨he, hw⟩ => ⟨he, hw ▸ Below.refl _ _⟩
  · have hne : l ≠ [] := by rw [hcons]; simp
    obtain ⟨b1, o1, rfl, hb1, hL1⟩ := hl1 hne
    obtain ⟨b2, o2, rfl, hb2, hL2⟩ := hl2 hne
    exact (sameB_cells b1 o1 c1 b2 o2 c2 l w hL1 hL2 hn).mono fun e w' ⟨he, q, hw⟩ => ⟨he, hw ▸ ⟨rfl, rfl, rfl, Nat.le_refl _, fun _ _ => rfl⟩⟩
theorem below_drewN {base : Nat} {w wr : World} (h : Below base w wr) (q : Nat) : Below base w (wr.drewN q) := ⟨h.os, h.tape, h.output, h.size, h.block⟩
end Go.Proofs.YtfohknpjlkjbbaaGreatDoor
