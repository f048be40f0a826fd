/- Walks: slices of tags that lie in memory; the document's Same, Great, Find, may; the program's Find, formed. -/
import Derived.Test.YtfjbbaejeckonaaDoorM2
import Derived.Test.YtfjbbaejeckonaaDoorW1
import Derived.Test.YtfjbbaejeckonaaDoorW3
import Derived.BigQuiet
import Derived.Deep.RegionHeld3
namespace Go.Proofs.YtfjbbaejeckonaaDoor
open Go Go.RowKit Tg

/-- The tags l lie in block b from offset o on. -/
def TLies (w : World) (b o : Nat) (l : List Tag) : Prop :=
  ∀ i (h : i < l.length), w.cell? ⟨b, o + i * 2, none⟩ = some (.string (l[i]).1) ∧ w.cell? ⟨b, o + i * 2 + 1, none⟩ = some (.string (l[i]).2)
theorem TLies.on {w w1 : World} {b o : Nat} {l : List Tag} (h : TLies w b o l) (hb : b < w.heap.size) (n : Below w.heap.size w w1) : TLies w1 b o l := by
  intro i hi
  rw [n.cell (p := ⟨b, o + i * 2, none⟩) hb, n.cell (p := ⟨b, o + i * 2 + 1, none⟩) hb]
  exact h i hi
/-- What stands behind the slice's address a. -/
def TAt (w : World) (a : Option Addr) (l : List Tag) : Prop := l ≠ [] → ∃ b o, a = some ⟨b, o, none⟩ ∧ b < w.heap.size ∧ TLies w b o l
theorem TAt.on {w w1 : World} {a : Option Addr} {l : List Tag} (h : TAt w a l) (n : Below w.heap.size w w1) : TAt w1 a l := by
  intro hne
  obtain ⟨b, o, ha, hb, hL⟩ := h hne
  exact ⟨b, o, ha, Nat.lt_of_lt_of_le hb n.size, hL.on hb n⟩
/-- The value v is a slice that holds the tags l. -/
def TRow (w : World) (v : Value) (l : List Tag) : Prop := ∃ a c, v = .slice a l.length c ∧ l.length ≤ c ∧ TAt w a l
theorem TRow.on {w w1 : World} {v : Value} {l : List Tag} (h : TRow w v l) (n : Below w.heap.size w w1) : TRow w1 v l := by
  obtain ⟨a, c, hv, hc, hl⟩ := h
  exact ⟨a, c, hv, hc, hl.on n⟩
theorem TRow.nil (w : World) : TRow w (.slice none 0 0) [] := ⟨none, 0, rfl, Nat.le_refl _, fun h => absurd rfl h⟩
theorem ne_of_lt {α : Type} {l : List α} {k : Nat} (h : k < l.length) : l ≠ [] := fun e => by subst e; simp at h
theorem newC0 (w : World) (x y : Value) : (w.alloc (.cells #[x, y] 40)).cell? ⟨w.heap.size, 0, none⟩ = some x := by simp
theorem newC1 (w : World) (x y : Value) : (w.alloc (.cells #[x, y] 40)).cell? ⟨w.heap.size, 1, none⟩ = some y := by simp
theorem beq_ba (x y : ByteArray) : (x.toList == y.toList) = eqB x y := by rw [ByteArray.toList_eq, ByteArray.toList_eq]; rfl
theorem beq_self_ba (x : ByteArray) : (x.toList == x.toList) = true := by simp

set_option maxHeartbeats 400000 in
theorem same_cells (a1 a2 : Option Addr) (c1 c2 : Nat) (l : List Tag) (w : World) (h1 : TAt w a1 l) (h2 : TAt w a2 l) (hn : l.length ≤ 1000000) :
    Calls Tryd.prog 18 #[.slice a1 l.length c1, .slice a2 l.length c2] w fun e w' => e = .returned (.bool true) ∧ ∃ q, w' = w.drewN q := by
  have H1 := Lib.hid h1
  have H2 := Lib.hid h2
  clear h1 h2
  go_enter Tryd.func18, Tryd.ntmps18
  go_wp2
  go_loopw [5] (fun i wr => ∃ k nq : Nat, k ≤ l.length ∧ i = .int .i64 k ∧ wr = w.drewN nq) (fun i _ => l.length - (intOf i).toNat)
  case atStart => exact ⟨0, 0, Nat.zero_le _, rfl, rfl⟩
  case round =>
    obtain ⟨k, nq, hk, rfl, rfl⟩ := hrel
    by_cases hlt : k < l.length
    · obtain ⟨b1, o1, rfl, hb1, hL1⟩ := H1.out (ne_of_lt hlt)
      obtain ⟨b2, o2, rfl, hb2, hL2⟩ := H2.out (ne_of_lt hlt)
      obtain ⟨e1, e2⟩ := hL1 k hlt
      obtain ⟨e3, e4⟩ := hL2 k hlt
      have i1 : (k : Int) < (l.length : Int) := by omega
      have i2 : (0 : Int) ≤ (k : Int) := by omega
      generalize l[k] = x at *
      clear hL1 hL2 hb1 hb2 H1 H2
      go_wp2_with fail
      go_quiet (fail)
      go_wp2_with fail
      exact ⟨⟨k + 1, _, by omega, by go_num, rfl⟩, by simp [intOf]; omega⟩
    · go_wp2
      go_ret
      exact ⟨rfl, _, rfl⟩

theorem same_any (v1 v2 : Value) (l : List Tag) (w : World) (h1 : TRow w v1 l) (h2 : TRow w v2 l) (hn : l.length ≤ 1000000) :
    Calls Tryd.prog 18 #[v1, v2] w fun e w' => e = .returned (.bool true) ∧ Below w.heap.size w w' := by
  obtain ⟨a1, c1, rfl, hc1, hl1⟩ := h1
  obtain ⟨a2, c2, rfl, hc2, hl2⟩ := h2
  exact (same_cells a1 a2 c1 c2 l w hl1 hl2 hn).mono fun e w' ⟨he, q, hw⟩ => ⟨he, hw ▸ ⟨rfl, rfl, rfl, Nat.le_refl _, fun _ _ => rfl⟩⟩

def greatT (l : List Tag) : Bool := decide (20 < l.length) || l.any fun t => decide (100 < t.1.size) || decide (100 < t.2.size)

set_option maxHeartbeats 400000 in
theorem great_any (v : Value) (l : List Tag) (w : World) (h : TRow w v l) (hs : ∀ x ∈ l, x.1.size ≤ 281474976710656 ∧ x.2.size ≤ 281474976710656) :
    Calls Tryd.prog 9 #[v] w fun e w' => e = .returned (.bool (greatT l)) ∧ w' = w := by
  obtain ⟨a, c, rfl, hc, hl⟩ := h
  by_cases hn : 20 < l.length
  · have hv : greatT l = true := by simp [greatT, hn]
    rw [hv]
    clear hv hl hs
    go_enter Tryd.func9, Tryd.ntmps9
    go_wp2
    go_ret
    exact ⟨rfl, rfl⟩
  · have hv : greatT l = l.any fun t => decide (100 < t.1.size) || decide (100 < t.2.size) := by simp [greatT, hn]
    rw [hv]
    clear hv
    have HL := Lib.hid hl
    have HS := Lib.hid hs
    clear hl hs
    obtain ⟨A, HA⟩ : ∃ A, Hid ((l.any fun t => decide (100 < t.1.size) || decide (100 < t.2.size)) = A) := ⟨_, rfl⟩
    rw [HA.out]
    go_enter Tryd.func9, Tryd.ntmps9
    go_wp2
    go_loop [3] (fun i => ∃ (k : Nat), k ≤ l.length ∧ i = .int .i64 k ∧ Hid (((l.take k).any fun t => decide (100 < t.1.size) || decide (100 < t.2.size)) = false)) (fun i => l.length - (intOf i).toNat)
    case atStart => exact ⟨0, Nat.zero_le _, rfl, rfl⟩
    case round =>
      obtain ⟨k, hk, rfl, HT⟩ := hrel
      by_cases hlt : k < l.length
      · obtain ⟨b, o, rfl, hb, hL⟩ := HL.out (ne_of_lt hlt)
        obtain ⟨e1, e2⟩ := hL k hlt
        have i1 : (k : Int) < (l.length : Int) := by omega
        have i2 : (0 : Int) ≤ (k : Int) := by omega
        obtain ⟨z1, z2⟩ := HS.out _ (List.getElem_mem hlt)
        have HT2 : Hid (((l.take (k + 1)).any fun t => decide (100 < t.1.size) || decide (100 < t.2.size)) = (decide (100 < (l[k]).1.size) || decide (100 < (l[k]).2.size))) := by
          show _ = _
          rw [List.take_succ_eq_append_getElem hlt, List.any_append, HT.out]
          simp
        have HF : Hid ((decide (100 < (l[k]).1.size) || decide (100 < (l[k]).2.size)) = true → A = true) := by
          intro h
          show A = true
          rw [← HA.out, List.any_eq_true]
          exact ⟨_, List.getElem_mem hlt, h⟩
        generalize l[k] = x at *
        clear hL hb HL HS HT
        by_cases g1 : 100 < x.1.size
        · go_wp2_with fail
          go_ret
          exact ⟨ret_bool (HF.out (by simp [g1])).symm, rfl⟩
        · by_cases g2 : 100 < x.2.size
          · go_wp2_with fail
            go_ret
            exact ⟨ret_bool (HF.out (by simp [g2])).symm, rfl⟩
          · go_wp2_with fail
            exact ⟨⟨k + 1, by omega, by go_num, by show _ = _; rw [HT2.out]; simp [g1, g2]⟩, by simp [intOf]; omega⟩
      · have HF : Hid (A = false) := by
          have h1 := HT.out
          rw [List.take_of_length_le (by omega)] at h1
          show A = false
          rw [← HA.out]
          exact h1
        go_wp2_with fail
        go_ret
        exact ⟨ret_bool (HF.out).symm, rfl⟩

theorem find_hit {l : List Tag} {n : ByteArray} {k : Nat} (h : ∀ j (hj : j < l.length), j < k → (eqB (l[j]).1 n) = false) (hk : k < l.length) (he : (eqB (l[k]).1 n) = true) : find l n = ((l[k]).2, true) := by
  unfold find
  have : l.find? (fun t => eqB t.1 n) = some l[k] := by
    rw [List.find?_eq_some_iff_getElem]
    exact ⟨he, k, hk, rfl, fun j hj => by have := h j (by omega) hj; simp [this]⟩
  rw [this]
theorem find_miss {l : List Tag} {n : ByteArray} (h : ∀ j (hj : j < l.length), (eqB (l[j]).1 n) = false) : find l n = (⟨#[]⟩, false) := by
  unfold find
  have : l.find? (fun t => eqB t.1 n) = none := by
    rw [List.find?_eq_none]
    intro x hx
    obtain ⟨j, hj, rfl⟩ := List.mem_iff_getElem.1 hx
    rw [h j hj]
    simp
  rw [this]
theorem none_next {l : List Tag} {n : ByteArray} {k : Nat} (h : ∀ j (hj : j < l.length), j < k → (eqB (l[j]).1 n) = false) (hk : k < l.length) (he : (eqB (l[k]).1 n) = false) : ∀ j (hj : j < l.length), j < k + 1 → (eqB (l[j]).1 n) = false := by
  intro j hj hjk
  rcases Nat.lt_or_ge j k with g | g
  · exact h j hj g
  · have : j = k := by omega
    subst this
    exact he

theorem ret_find {a b : ByteArray × Bool} (h : a = b) : Ending.returned (.tuple #[.string a.1, .bool a.2]) = .returned (.tuple #[.string b.1, .bool b.2]) := by rw [h]

end Go.Proofs.YtfjbbaejeckonaaDoor
