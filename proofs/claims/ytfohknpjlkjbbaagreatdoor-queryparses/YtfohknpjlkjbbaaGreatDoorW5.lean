/- Walks: lists of texts that lie in memory: Same, Join of the document, and whether a list is more than is looked at. Walks: the document's Join and Split. -/
import Derived.Test.YtfohknpjlkjbbaaGreatDoorW2
import Derived.BigQuiet
namespace Go.Proofs.YtfohknpjlkjbbaaGreatDoor
open Go Go.RowKit

def total (l : List ByteArray) : Nat := (l.map (·.size)).sum
def greatB (l : List ByteArray) : Bool := decide (100 < l.length) || decide (5000 < total l)
theorem total_take (l : List ByteArray) (k : Nat) (hk : k < l.length) : total (l.take (k + 1)) = total (l.take k) + (l[k]).size := by
  rw [List.take_succ_eq_append_getElem hk, total, total, List.map_append, List.sum_append]
  simp only [List.map_cons, List.map_nil, List.sum_cons, List.sum_nil, Nat.add_zero]
theorem total_le (l : List ByteArray) (k : Nat) : total (l.take k) ≤ total l := by
  have h : total l = total (l.take k) + total (l.drop k) := by
    unfold total
    rw [← List.sum_append, ← List.map_append, List.take_append_drop]
  omega

end Go.Proofs.YtfohknpjlkjbbaaGreatDoor
namespace Go.Proofs.YtfohknpjlkjbbaaGreatDoor
open Go Go.RowKit

theorem joinB_take (sep : ByteArray) (l : List ByteArray) (k : Nat) (hk : k < l.length) : joinB sep (l.take (k + 1)) = (if 0 < k then joinB sep (l.take k) ++ sep else joinB sep (l.take k)) ++ l[k] := by
  have h := Word.join_take (l.map (·.data.toList)) sep.data.toList k (l[k]).data.toList (by simp [List.getElem?_eq_getElem hk])
  apply ByteArray.ext
  have e : ∀ a b : ByteArray, a.data.toList = b.data.toList → a.data = b.data := fun a b h => by
    have := congrArg List.toArray h
    simpa using this
  apply e
  unfold joinB
  rw [ba_list, List.map_take, h]
  split <;> simp [ByteArray.data_append, ba_list, List.map_take]
theorem joinB_le (sep : ByteArray) (l : List ByteArray) (k : Nat) : (joinB sep (l.take k)).size ≤ (joinB sep l).size := by
  rw [joinB_size, joinB_size, List.map_take]
  exact Word.join_len_take _ _ k
theorem joinB_nil (sep : ByteArray) : joinB sep [] = ⟨#[]⟩ := rfl
theorem ba_size (a b : ByteArray) : (a ++ b).size = a.size + b.size := ByteArray.size_append

set_option maxHeartbeats 400000 in
theorem refJoin_zero (a : Option Addr) (c : Nat) (sep : ByteArray) (w : World) :
    Calls Tryz.prog 35 #[.string sep, .slice a 0 c] w fun e w' => e = .returned (.string ⟨#[]⟩) ∧ w' = w := by
  go_enter Tryz.func35, Tryz.ntmps35
  go_wp2
  refine wp_loop_rounds 1 ?_
  rw [rounds_succ]
  go_wp2
  go_ret
  exact ⟨rfl, rfl⟩

set_option maxHeartbeats 800000 in
theorem refJoin_cells (b o c : Nat) (l : List ByteArray) (sep : ByteArray) (w : World) (hL : Lies w b o l) (hn : l.length ≤ 1000000) (hlen : (joinB sep l).size ≤ 140737488355328) :
    Calls Tryz.prog 35 #[.string sep, .slice (some ⟨b, o, none⟩) l.length c] w fun e w' => e = .returned (.string (joinB sep l)) ∧ w' = w := by
  have HL := Lib.hid hL
  clear hL
  obtain ⟨J, HJ⟩ : ∃ J, Hid (joinB sep l = J) := ⟨_, rfl⟩
  rw [HJ.out] at hlen ⊢
  go_enter Tryz.func35, Tryz.ntmps35
  go_wp2
  go_loop [5, 6] (fun s i => ∃ (k : Nat) (S : ByteArray), k ≤ l.length ∧ i = .int .i64 k ∧ s = .string S ∧ S.size ≤ 140737488355328 ∧ Hid (S = joinB sep (l.take k))) (fun _ i => l.length - (intOf i).toNat)
  case atStart => exact ⟨0, ⟨#[]⟩, Nat.zero_le _, rfl, rfl, by decide, rfl⟩
  case round =>
    obtain ⟨k, S, hk, rfl, rfl, hS, HS⟩ := hrel
    by_cases hlt : k < l.length
    · have e1 := HL.out.at k hlt
      have i1 : (k : Int) < (l.length : Int) := by omega
      have i2 : (0 : Int) ≤ (k : Int) := by omega
      have hle := joinB_le sep l (k + 1)
      rw [HJ.out, joinB_take sep l k hlt, ← HS.out] at hle
      have HT := Lib.hid (joinB_take sep l k hlt)
      rw [← HS.out] at HT
      by_cases hk0 : 0 < k
      · have i3 : (0 : Int) < (k : Int) := by omega
        rw [if_pos hk0, ba_size, ba_size] at hle
        have HT := Lib.hid HT.out
        rw [if_pos hk0] at HT
        generalize l[k] = x at *
        go_wp2_with fail
        exact ⟨⟨k + 1, _, by omega, by go_num, rfl, by rw [ba_size, ba_size]; omega, (HT.out).symm⟩, by simp [intOf]; omega⟩
      · have i3 : ¬ (0 : Int) < (k : Int) := by omega
        rw [if_neg hk0, ba_size] at hle
        have HT := Lib.hid HT.out
        rw [if_neg hk0] at HT
        generalize l[k] = x at *
        go_wp2_with fail
        exact ⟨⟨k + 1, _, by omega, by go_num, rfl, by rw [ba_size]; omega, (HT.out).symm⟩, by simp [intOf]; omega⟩
    · have HF : Hid (S = J) := by
        show S = J
        rw [HS.out, List.take_of_length_le (by omega), HJ.out]
      go_wp2_with fail
      go_ret
      exact ⟨ret_str HF.out, rfl⟩

theorem refJoin_any (v : Value) (l : List ByteArray) (sep : ByteArray) (w : World) (h : Row w v l) (hn : l.length ≤ 1000000) (hlen : (joinB sep l).size ≤ 140737488355328) :
    Calls Tryz.prog 35 #[.string sep, v] w fun e w' => e = .returned (.string (joinB sep l)) ∧ w' = w := by
  obtain ⟨a, c, rfl, hc, hl⟩ := h
  rcases List.eq_nil_or_concat l with hnil | ⟨l0, x0, hcons⟩
  · subst hnil
    rw [joinB_nil]
    exact refJoin_zero a c sep w
  · have hne : l ≠ [] := by rw [hcons]; simp
    obtain ⟨b, o, rfl, hb, hL⟩ := hl hne
    exact refJoin_cells b o c l sep w hL hn hlen

theorem join_row (v : Value) (l : List ByteArray) (sep : ByteArray) (w : World) (h : Row w v l) (hn : l.length ≤ 1000000) (hlen : (joinB sep l).size ≤ 140737488355328) :
    Calls Tryz.prog 32 #[.string sep, v] w fun e w' => e = .returned (.string (joinB sep l)) ∧ Below w.heap.size w w' := by
  obtain ⟨a, c, rfl, hc, hl⟩ := h
  rcases List.eq_nil_or_concat l with hnil | ⟨l0, x0, hcons⟩
  · subst hnil
    rw [joinB_nil]
    exact (join_zero a c sep w).mono fun e w' ⟨he, hw⟩ => ⟨he, hw ▸ Below.refl _ _⟩
  · have hne : l ≠ [] := by rw [hcons]; simp
    obtain ⟨b, o, rfl, hb, hL⟩ := hl hne
    exact join_any b o c l sep w hL hb (by omega) hc hlen
end Go.Proofs.YtfohknpjlkjbbaaGreatDoor
