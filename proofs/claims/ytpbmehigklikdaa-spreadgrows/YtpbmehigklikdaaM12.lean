/- Plain mathematics of spread: the hash of a text, its shard; no program, no conditions. -/
import Derived.Test.YtpbmehigklikdaaProg
namespace Go.Proofs.Ytpbmehigklikdaa.Sp
open Go

def hstep (h b : Nat) : Nat := ((h ^^^ b) * 16777619) % 4294967296
def seed : Nat := 2166136261
theorem seed_lt : seed < 4294967296 := by unfold seed; omega
def hashF (h : Nat) (l : List UInt8) : Nat := l.foldl (fun h b => hstep h b.toNat) h
def hashL (l : List UInt8) : Nat := hashF seed l
theorem hstep_lt (h b : Nat) : hstep h b < 4294967296 := by
  unfold hstep
  generalize (h ^^^ b) * 16777619 = x
  omega
theorem hashF_nil (h : Nat) : hashF h [] = h := rfl
theorem hashL_nil : hashL [] = seed := hashF_nil seed
theorem hashL_snoc (l : List UInt8) (b : UInt8) : hashL (l ++ [b]) = hstep (hashL l) b.toNat := by unfold hashL hashF; rw [List.foldl_append, List.foldl_cons, List.foldl_nil]
theorem hashL_lt (l : List UInt8) : hashL l < 4294967296 := by
  rcases List.eq_nil_or_concat l with h | ⟨l0, x, h⟩
  · subst h; rw [hashL_nil]; exact seed_lt
  · subst h; rw [List.concat_eq_append, hashL_snoc]; exact hstep_lt _ _
def hashS (s : ByteArray) : Nat := hashL s.data.toList
theorem hashS_lt (s : ByteArray) : hashS s < 4294967296 := hashL_lt _
theorem take_snoc (s : ByteArray) (k : Nat) (h : k < s.size) : s.data.toList.take (k + 1) = s.data.toList.take k ++ [s[k]] := by
  rw [List.take_succ_eq_append_getElem (by simpa using h)]; rfl
theorem size_list (s : ByteArray) : s.size = s.data.toList.length := by rw [Array.length_toList]; rfl
theorem hash_next (s : ByteArray) (k : Nat) (h : k < s.size) : hashL (s.data.toList.take (k + 1)) = hstep (hashL (s.data.toList.take k)) (s[k]).toNat := by rw [take_snoc s k h, hashL_snoc]
theorem hash_all (s : ByteArray) : hashL (s.data.toList.take s.size) = hashS s := by rw [size_list, List.take_length]; rfl
theorem xor_lt (h b : Nat) (hh : h < 4294967296) (hb : b < 256) : h ^^^ b < 4294967296 := Nat.xor_lt_two_pow (n := 32) (by omega) (by omega)
/-- The shard of a text. -/
def shardOf (s : ByteArray) (n : Int) : Nat := if n < 1 ∨ 4 < n then 0 else hashS s % n.toNat
def shardsOf (n : Int) : Nat := if n < 1 ∨ 4 < n then 1 else n.toNat
theorem shardsOf_one (n : Int) : 1 ≤ shardsOf n := by unfold shardsOf; split <;> omega
theorem shardsOf_le (n : Int) : shardsOf n ≤ 4 := by unfold shardsOf; split <;> omega
theorem shardOf_lt (s : ByteArray) (n : Int) : shardOf s n < shardsOf n := by
  unfold shardOf shardsOf
  split
  · decide
  · exact Nat.mod_lt _ (by omega)
/-- One of the parts of texts. -/
def partOf (n : Int) (l : List ByteArray) (k : Nat) : List ByteArray := l.filter fun s => shardOf s n == k
theorem part_snoc (n : Int) (l : List ByteArray) (s : ByteArray) (k : Nat) : partOf n (l ++ [s]) k = partOf n l k ++ (if shardOf s n = k then [s] else []) := by
  unfold partOf
  rw [List.filter_append]
  congr 1
  by_cases h : shardOf s n = k <;> simp [h]
def partsOf (n : Int) (l : List ByteArray) : List (List ByteArray) := (List.range (shardsOf n)).map (partOf n l)
theorem parts_len (n : Int) (l : List ByteArray) : (partsOf n l).length = shardsOf n := by simp [partsOf]
theorem parts_at (n : Int) (l : List ByteArray) (k : Nat) (h : k < (partsOf n l).length) : (partsOf n l)[k] = partOf n l k := by simp [partsOf]
theorem part_in (n : Int) (l : List ByteArray) (k : Nat) : ∀ s ∈ partOf n l k, shardOf s n = k := fun s hs => by simpa using (List.mem_filter.1 hs).2
/-- Each text is in just one of the parts. -/
theorem parts_count (n : Int) (l : List ByteArray) : ((partsOf n l).map List.length).sum = l.length := by
  have key : ∀ l s m, ((List.range m).map fun k => (partOf n (l ++ [s]) k).length).sum = ((List.range m).map fun k => (partOf n l k).length).sum + (if shardOf s n < m then 1 else 0) := by
    intro l s m
    induction m with
    | zero => simp
    | succ m ihm =>
      rw [List.range_succ, List.map_append, List.map_append, List.sum_append, List.sum_append, ihm]
      simp only [List.map_cons, List.map_nil, List.sum_cons, List.sum_nil, part_snoc, List.length_append]
      by_cases h1 : shardOf s n = m
      · subst h1; simp; omega
      · by_cases h2 : shardOf s n < m
        · rw [if_neg h1, if_pos h2, if_pos (by omega)]; simp; omega
        · rw [if_neg h1, if_neg h2, if_neg (by omega)]; simp
  have e : ∀ l, (partsOf n l).map List.length = (List.range (shardsOf n)).map fun k => (partOf n l k).length := fun l => by simp [partsOf]
  have main : ∀ (j : Nat) (l : List ByteArray), l.length = j → ((partsOf n l).map List.length).sum = l.length := by
    intro j
    induction j with
    | zero =>
      intro l h
      rw [List.length_eq_zero_iff.1 h, e]
      have : ∀ m, ((List.range m).map fun k => (partOf n [] k).length).sum = 0 := by
        intro m
        induction m with
        | zero => rfl
        | succ m ih => rw [List.range_succ, List.map_append, List.sum_append, ih]; simp [partOf]
      exact this _
    | succ j ih =>
      intro l h
      rcases List.eq_nil_or_concat l with h0 | ⟨l0, x, h0⟩
      · subst h0; simp at h
      · subst h0
        rw [List.concat_eq_append] at h ⊢
        have hl : l0.length = j := by simpa using h
        rw [e, key, if_pos (shardOf_lt x n), ← e, ih l0 hl]
        simp
  exact main _ l rfl
end Go.Proofs.Ytpbmehigklikdaa.Sp
