/- Walks: slices of tags that lie in memory; the document's Same, Great, Find, may; the program's Find, formed. -/
import Derived.Test.YtfohknpjlkjbbaaGreatDoorM2
import Derived.Test.YtfohknpjlkjbbaaGreatDoorW1
import Derived.Test.YtfohknpjlkjbbaaGreatDoorW3
import Derived.BigQuiet
import Derived.Deep.RegionHeld3
namespace Go.Proofs.YtfohknpjlkjbbaaGreatDoor
open Go Go.RowKit Tg

/-- The tags l lie in block b from offset o on. -/
def TLies (w : World) (b o : Nat) (l : List Tag) : Prop :=
  ∀ i (h : i < l.length), w.cell? ⟨b, o + i * 2, none⟩ = some (.string (l[i]).1) ∧ w.cell? ⟨b, o + i * 2 + 1, none⟩ = some (.string (l[i]).2)
theorem TLies.on {w w1 : World} {b o : Nat} {l : List Tag} (h : TLies w b o l) (hb : b < w.heap.size) (n : Below w.heap.size w w1) : TLies w1 b o l := by
  intro i hi
  rw [n.cell (p := ⟨b, o + i * 2, none⟩) hb, n.cell (p := ⟨b, o + i * 2 + 1, none⟩) hb]
  exact h i hi
/-- What stands behind the slice's address a. -/
def TAt (w : World) (a : Option Addr) (l : List Tag) : Prop := l ≠ [] → ∃ b o, a = some ⟨b, o, none⟩ ∧ b < w.heap.size ∧ TLies w b o l
theorem TAt.on {w w1 : World} {a : Option Addr} {l : List Tag} (h : TAt w a l) (n : Below w.heap.size w w1) : TAt w1 a l := by
  intro hne
  obtain ⟨b, o, ha, hb, hL⟩ := h hne
  exact ⟨b, o, ha, Nat.lt_of_lt_of_le hb n.size, hL.on hb n⟩
/-- The value v is a slice that holds the tags l. -/
def TRow (w : World) (v : Value) (l : List Tag) : Prop := ∃ a c, v = .slice a l.length c ∧ l.length ≤ c ∧ TAt w a l
theorem TRow.on {w w1 : World} {v : Value} {l : List Tag} (h : TRow w v l) (n : Below w.heap.size w w1) : TRow w1 v l := by
  obtain ⟨a, c, hv, hc, hl⟩ := h
  exact ⟨a, c, hv, hc, hl.on n⟩
theorem TRow.nil (w : World) : TRow w (.slice none 0 0) [] := ⟨none, 0, rfl, Nat.le_refl _, fun h => absurd rfl h⟩
theorem ne_of_lt {α : Type} {l : List α} {k : Nat} (h : k < l.length) : l ≠ [] := fun e => by subst e; simp at h
theorem newC0 (w : World) (x y : Value) : (w.alloc (.cells #[x, y] 63)).cell? ⟨w.heap.size, 0, none⟩ = some x := by simp
theorem newC1 (w : World) (x y : Value) : (w.alloc (.cells #[x, y] 63)).cell? ⟨w.heap.size, 1, none⟩ = some y := by simp
theorem beq_ba (x y : ByteArray) : (x.toList == y.toList) = eqB x y := by rw [ByteArray.toList_eq, ByteArray.toList_eq]; rfl
theorem beq_self_ba (x : ByteArray) : (x.toList == x.toList) = true := by simp

def greatT (l : List Tag) : Bool := decide (20 < l.length) || l.any fun t => decide (100 < t.1.size) || decide (100 < t.2.size)

set_option maxHeartbeats 400000 in
theorem great_any (v : Value) (l : List Tag) (w : World) (h : TRow w v l) (hs : ∀ x ∈ l, x.1.size ≤ 281474976710656 ∧ x.2.size ≤ 281474976710656) :
    Calls Tryz.prog 17 #[v] w fun e w' => e = .returned (.bool (greatT l)) ∧ w' = w := by
  obtain ⟨a, c, rfl, hc, hl⟩ := h
  by_cases hn : 20 < l.length
  · have hv : greatT l = true := by simp [greatT, hn]
    rw [hv]
    clear hv hl hs
    go_enter Tryz.func17, Tryz.ntmps17
    go_wp2
    go_ret
    exact ⟨rfl, rfl⟩
  · have hv : greatT l = l.any fun t => decide (100 < t.1.size) || decide (100 < t.2.size) := by simp [greatT, hn]
    rw [hv]
    clear hv
    have HL := Lib.hid hl
    have HS := Lib.hid hs
    clear hl hs
    obtain ⟨A, HA⟩ : ∃ A, Hid ((l.any fun t => decide (100 < t.1.size) || decide (100 < t.2.size)) = A) := ⟨_, rfl⟩
    rw [HA.out]
    go_enter Tryz.func17, Tryz.ntmps17
    go_wp2
    go_loop [3] (fun i => ∃ (k : Nat), k ≤ l.length ∧ i = .int .i64 k ∧ Hid (((l.take k).any fun t => decide (100 < t.1.size) || decide (100 < t.2.size)) = false)) (fun i => l.length - (intOf i).toNat)
    case atStart => exact ⟨0, Nat.zero_le _, rfl, rfl⟩
    case round =>
      obtain ⟨k, hk, rfl, HT⟩ := hrel
      by_cases hlt : k < l.length
      · obtain ⟨b, o, rfl, hb, hL⟩ := HL.out (ne_of_lt hlt)
        obtain ⟨e1, e2⟩ := hL k hlt
        have i1 : (k : Int) < (l.length : Int) := by omega
        have i2 : (0 : Int) ≤ (k : Int) := by omega
        obtain ⟨z1, z2⟩ := HS.out _ (List.getElem_mem hlt)
        have HT2 : Hid (((l.take (k + 1)).any fun t => decide (100 < t.1.size) || decide (100 < t.2.size)) = (decide (100 < (l[k]).1.size) || decide (100 < (l[k]).2.size))) := by
          show _ = _
          rw [List.take_succ_eq_append_getElem hlt, List.any_append, HT.out]
          simp
        have HF : Hid ((decide (100 < (l[k]).1.size) || decide (100 < (l[k]).2.size)) = true → A = true) := by
          intro h
          show A = true
          rw [← HA.out, List.any_eq_true]
          exact ⟨_, List.getElem_mem hlt, h⟩
        generalize l[k] = x at *
        clear hL hb HL HS HT
        by_cases g1 : 100 < x.1.size
        · go_wp2_with fail
          go_ret
          exact ⟨ret_bool (HF.out (by simp [g1])).symm, rfl⟩
        · by_cases g2 : 100 < x.2.size
          · go_wp2_with fail
            go_ret
            exact ⟨ret_bool (HF.out (by simp [g2])).symm, rfl⟩
          · go_wp2_with fail
            exact ⟨⟨k + 1, by omega, by go_num, by show _ = _; rw [HT2.out]; simp [g1, g2]⟩, by simp [intOf]; omega⟩
      · have HF : Hid (A = false) := by
          have h1 := HT.out
          rw [List.take_of_length_le (by omega)] at h1
          show A = false
          rw [← HA.out]
          exact h1
        go_wp2_with fail
        go_ret
        exact ⟨ret_bool (HF.out).symm, rfl⟩

theorem find_hit {l : List Tag} {n : ByteArray} {k : Nat} (h : ∀ j (hj : j < l.length), j < k → (eqB (l[j]).1 n) = false) (hk : k < l.length) (he : (eqB (l[k]).1 n) = true) : find l n = ((l[k]).2, true) := by
  unfold find
  have : l.find? (fun t => eqB t.1 n) = some l[k] := by
    rw [List.find?_eq_some_iff_getElem]
    exact ⟨he, k, hk, rfl, fun j hj => by have := h j (by omega) hj; simp [this]⟩
  rw [this]
theorem find_miss {l : List Tag} {n : ByteArray} (h : ∀ j (hj : j < l.length), (eqB (l[j]).1 n) = false) : find l n = (⟨#[]⟩, false) := by
  unfold find
  have : l.find? (fun t => eqB t.1 n) = none := by
    rw [List.find?_eq_none]
    intro x hx
    obtain ⟨j, hj, rfl⟩ := List.mem_iff_getElem.1 hx
    rw [h j hj]
    simp
  rw [this]
theorem none_next {l : List Tag} {n : ByteArray} {k : Nat} (h : ∀ j (hj : j < l.length), j < k → (eqB (l[j]).1 n) = false) (hk : k < l.length) (he : (eqB (l[k]).1 n) = false) : ∀ j (hj : j < l.length), j < k + 1 → (eqB (l[j]).1 n) = false := by
  intro j hj hjk
  rcases Nat.lt_or_ge j k with g | g
  · exact h j hj g
  · have : j = k := by omega
    subst this
    exact he

theorem ret_find {a b : ByteArray × Bool} (h : a = b) : Ending.returned (.tuple #[.string a.1, .bool a.2]) = .returned (.tuple #[.string b.1, .bool b.2]) := by rw [h]

set_option maxHeartbeats 400000 in
theorem refFind_any (v : Value) (l : List Tag) (n : ByteArray) (w : World) (h : TRow w v l) (hn : l.length ≤ 1000000) :
    Calls Tryz.prog 95 #[v, .string n] w fun e w' => e = .returned (.tuple #[.string (find l n).1, .bool (find l n).2]) ∧ w' = w := by
  obtain ⟨a, c, rfl, hc, hl⟩ := h
  have HL := Lib.hid hl
  clear hl
  obtain ⟨F, HF⟩ : ∃ F, Hid (find l n = F) := ⟨_, rfl⟩
  rw [HF.out]
  go_enter Tryz.func95, Tryz.ntmps95
  go_wp2
  go_loop [6] (fun i => ∃ (k : Nat), k ≤ l.length ∧ i = .int .i64 k ∧ Hid (∀ j (hj : j < l.length), j < k → (eqB (l[j]).1 n) = false)) (fun i => l.length - (intOf i).toNat)
  case atStart => exact ⟨0, Nat.zero_le _, rfl, fun j _ hj => absurd hj (Nat.not_lt_zero j)⟩
  case round =>
    obtain ⟨k, hk, rfl, HT⟩ := hrel
    by_cases hlt : k < l.length
    · obtain ⟨b, o, rfl, hb, hL⟩ := HL.out (ne_of_lt hlt)
      obtain ⟨e1, e2⟩ := hL k hlt
      have i1 : (k : Int) < (l.length : Int) := by omega
      have i2 : (0 : Int) ≤ (k : Int) := by omega
      have HH : Hid ((eqB (l[k]).1 n) = true → F = ((l[k]).2, true)) := fun h => (HF.out).symm.trans (find_hit HT.out hlt h)
      have HN : Hid ((eqB (l[k]).1 n) = false → ∀ j (hj : j < l.length), j < k + 1 → (eqB (l[j]).1 n) = false) := fun h => none_next HT.out hlt h
      have HQ := Lib.hid (beq_ba (l[k]).1 n)
      generalize l[k] = x at *
      clear hL hb HL HT
      cases hq : (eqB x.1 n)
      · have hq' := HQ.out.trans hq
        have HN2 := Lib.hid (HN.out hq)
        clear hq HH HN
        go_wp2_with fail
        exact ⟨⟨k + 1, by omega, by go_num, HN2⟩, by simp [intOf]; omega⟩
      · have hq' := HQ.out.trans hq
        have HH2 := Lib.hid (HH.out hq)
        clear hq HH HN
        go_wp2_with fail
        go_ret2
        exact ⟨by rw [HH2.out]; rfl, rfl⟩
    · have HM := Lib.hid ((HF.out).symm.trans (find_miss fun j hj => HT.out j hj (by omega)))
      go_wp2_with fail
      go_ret2
      exact ⟨by rw [HM.out]; rfl, rfl⟩

set_option maxHeartbeats 400000 in
theorem find_any (v : Value) (l : List Tag) (n : ByteArray) (w : World) (h : TRow w v l) (hn : l.length ≤ 1000000) :
    Calls Tryz.prog 92 #[v, .string n] w fun e w' => e = .returned (.tuple #[.string (find l n).1, .bool (find l n).2]) ∧ Below w.heap.size w w' := by
  obtain ⟨a, c, rfl, hc, hl⟩ := h
  have HL := Lib.hid hl
  clear hl
  obtain ⟨F, HF⟩ : ∃ F, Hid (find l n = F) := ⟨_, rfl⟩
  rw [HF.out]
  go_enter Tryz.func92, Tryz.ntmps92
  go_wp2
  go_loopw [10] (fun i wr => ∃ (k : Nat), k ≤ l.length ∧ i = .int .i64 k ∧ Hid (∀ j (hj : j < l.length), j < k → (eqB (l[j]).1 n) = false) ∧ Below w.heap.size w wr) (fun i _ => l.length - (intOf i).toNat)
  case atStart => exact ⟨0, Nat.zero_le _, rfl, fun j _ hj => absurd hj (Nat.not_lt_zero j), Below.refl _ _⟩
  case round =>
    obtain ⟨k, hk, rfl, HT, hbl⟩ := hrel
    by_cases hlt : k < l.length
    · obtain ⟨b, o, rfl, hb, hL⟩ := HL.out (ne_of_lt hlt)
      obtain ⟨e1, e2⟩ := (hL.on hb hbl) k hlt
      have i1 : (k : Int) < (l.length : Int) := by omega
      have i2 : (0 : Int) ≤ (k : Int) := by omega
      have HH : Hid ((eqB (l[k]).1 n) = true → F = ((l[k]).2, true)) := fun h => (HF.out).symm.trans (find_hit HT.out hlt h)
      have HN : Hid ((eqB (l[k]).1 n) = false → ∀ j (hj : j < l.length), j < k + 1 → (eqB (l[j]).1 n) = false) := fun h => none_next HT.out hlt h
      have HQ := Lib.hid (beq_ba (l[k]).1 n)
      generalize l[k] = x at *
      clear hL hb HL HT
      have hz := hbl.size
      cases hq : (eqB x.1 n)
      · have hq' := HQ.out.trans hq
        have HN2 := Lib.hid (HN.out hq)
        clear hq HH HN
        go_wp2_with fail
        exact ⟨⟨k + 1, by omega, by go_num, HN2, hbl.alloc hz _⟩, by simp [intOf]; omega⟩
      · have hq' := HQ.out.trans hq
        have HH2 := Lib.hid (HH.out hq)
        clear hq HH HN
        go_wp2_with fail
        go_ret2
        exact ⟨by rw [HH2.out]; rfl, hbl.alloc hz _⟩
    · have HM := Lib.hid ((HF.out).symm.trans (find_miss fun j hj => HT.out j hj (by omega)))
      go_wp2_with fail
      go_ret2
      exact ⟨by rw [HM.out]; rfl, hbl⟩
end Go.Proofs.YtfohknpjlkjbbaaGreatDoor
