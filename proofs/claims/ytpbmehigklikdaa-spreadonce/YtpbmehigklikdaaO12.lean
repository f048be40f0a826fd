/- Walks of spread: the program's own hash and shard . -/
import Derived.Test.YtpbmehigklikdaaW12
import Derived.Test.YtpbmehigklikdaaP13
namespace Go.Proofs.Ytpbmehigklikdaa.Sp
open Go Go.RowKit

theorem xor32 (a b : Nat) (ha : a < 4294967296) (hb : b < 4294967296) :
    bits .xor .u32 (a : Int) (b : Int) = ((a ^^^ b : Nat) : Int) := by
  have hx : a ^^^ b < 2 ^ 32 := Nat.xor_lt_two_pow (by omega) (by omega)
  have h1 : (BitVec.ofInt 32 (a : Int)).toNat = a := by
    rw [BitVec.ofInt_natCast, BitVec.toNat_ofNat]; exact Nat.mod_eq_of_lt (by omega)
  have h2 : (BitVec.ofInt 32 (b : Int)).toNat = b := by
    rw [BitVec.ofInt_natCast, BitVec.toNat_ofNat]; exact Nat.mod_eq_of_lt (by omega)
  show IntKind.u32.wrap ((BitVec.ofInt 32 (a : Int) ^^^ BitVec.ofInt 32 (b : Int)).toNat : Int) = _
  rw [BitVec.toNat_xor, h1, h2, show IntKind.u32.wrap ((a ^^^ b : Nat) : Int) = ((a ^^^ b : Nat) : Int) % 4294967296 by simp [IntKind.wrap, IntKind.bits, IntKind.signed]]
  omega
theorem step32 (h b : Nat) : IntKind.u32.wrap (((h ^^^ b : Nat) : Int) * 16777619) = (hstep h b : Int) := by
  rw [show ∀ n : Int, IntKind.u32.wrap n = n % 4294967296 from fun n => by simp [IntKind.wrap, IntKind.bits, IntKind.signed]]
  unfold hstep
  generalize h ^^^ b = x
  omega

set_option maxHeartbeats 400000 in
/-- The program's hash. -/
theorem hash_own (s : ByteArray) (w : World) (hn : s.size ≤ 1000000000) :
    Calls Try.prog 9 #[.string s] w fun e w' => e = .returned (.int .u32 (hashS s : Int)) ∧ w' = w := by
  go_enter Try.func9, Try.ntmps9
  go_wp2_with fail
  go_loop [3, 7] (fun h i => ∃ k : Nat, k ≤ s.size ∧ i = .int .i64 k ∧ h = .int .u32 (hashL (s.data.toList.take k) : Int)) (fun _ i => s.size - (intOf i).toNat)
  case atStart => exact ⟨0, Nat.zero_le _, rfl, rfl⟩
  case round =>
    obtain ⟨k, hk, rfl, rfl⟩ := hrel
    have HL := hashL_lt (s.data.toList.take k)
    by_cases hlt : k < s.size
    · have HN := hash_next s k hlt
      have hb : (s[k]).toNat < 256 := UInt8.toNat_lt _
      have e1 := xor32 _ (s[k]).toNat HL (by omega)
      have e2 := step32 (hashL (s.data.toList.take k)) (s[k]).toNat
      have e3 := xor_lt _ _ HL hb
      rw [← HN] at e2
      have HM := hashL_lt (s.data.toList.take (k + 1))
      obtain ⟨A, hA⟩ : ∃ A, A = hashL (s.data.toList.take k) := ⟨_, rfl⟩
      obtain ⟨B, hB⟩ : ∃ B, B = hashL (s.data.toList.take (k + 1)) := ⟨_, rfl⟩
      obtain ⟨X, hX⟩ : ∃ X, X = A ^^^ (s[k]).toNat := ⟨_, rfl⟩
      rw [← hA] at e1 e2 e3 HL ⊢
      rw [← hB] at e2 HM
      rw [← hX] at e1 e2 e3
      have HB := Lib.hid hB
      clear hA hB hX HN
      have i1 : (k : Int) < (s.size : Int) := by omega
      go_wp2_with fail
      exact ⟨⟨k + 1, by omega, by go_num, by rw [HB.out]⟩, by simp [intOf]; omega⟩
    · have hke : k = s.size := by omega
      subst hke
      rw [hash_all] at HL ⊢
      go_wp2_with fail
      go_ret
      exact ⟨rfl, rfl⟩

/-- How many shards there are. -/
theorem count_own (n : Int) (w : World) (hn1 : -9223372036854775808 ≤ n) (hn2 : n ≤ 9223372036854775807) :
    Calls Try.prog 16 #[.int .i64 n] w fun e w' => e = .returned (.int .i64 (shardsOf n : Int)) ∧ w' = w := by
  by_cases h1 : n < 1
  · have hv : shardsOf n = 1 := shards_other n (Or.inl h1)
    rw [hv]
    clear hv
    go_enter Try.func16, Try.ntmps16
    go_wp2_with fail
    go_ret
    exact ⟨rfl, rfl⟩
  · by_cases h2 : 4 < n
    · have hv : shardsOf n = 1 := shards_other n (Or.inr h2)
      rw [hv]
      clear hv
      go_enter Try.func16, Try.ntmps16
      go_wp2_with fail
      go_ret
      exact ⟨rfl, rfl⟩
    · have hv : ((shardsOf n : Nat) : Int) = n := by rw [shards_self n (by omega) (by omega)]; omega
      rw [hv]
      clear hv
      go_enter Try.func16, Try.ntmps16
      go_wp2_with fail
      go_ret
      exact ⟨rfl, rfl⟩

theorem shard_mod (s : ByteArray) (n : Int) : shardOf s n = hashS s % shardsOf n := by
  unfold shardOf shardsOf
  split
  · rw [Nat.mod_one]
  · rfl

/-- The program's shard of a text. -/
theorem of_own (s : ByteArray) (n : Int) (w : World) (hn : s.size ≤ 1000000000) (hn1 : -9223372036854775808 ≤ n) (hn2 : n ≤ 9223372036854775807) :
    Calls Try.prog 8 #[.string s, .int .i64 n] w fun e w' => e = .returned (.int .i64 (shardOf s n : Int)) ∧ w' = w := by
  have HR := Lib.hid (hash_own s w hn)
  have HC := Lib.hid (count_own n w hn1 hn2)
  rw [shard_mod s n]
  have HH := hashS_lt s
  have hm1 := shardsOf_one n
  have hm4 := shardsOf_le n
  generalize shardsOf n = m at *
  have e1 := tmodN (hashS s) (m : Int) (by omega)
  rw [Int.toNat_natCast] at e1
  have hl : hashS s % m < m := Nat.mod_lt _ (by omega)
  generalize hx : hashS s % m = x at *
  generalize hashS s = H at *
  have z1 : ¬ (m : Int) = 0 := by omega
  have z2 : ((m : Int) == 0) = false := by simp; omega
  clear hx
  go_enter Try.func8, Try.ntmps8
  go_wp2_with fail
  refine (HR.out).mono ?_
  rintro e w' ⟨rfl, rfl⟩
  go_wp2_with fail
  refine (HC.out).mono ?_
  rintro e w' ⟨rfl, rfl⟩
  go_wp2_with fail
  go_ret
  exact ⟨rfl, rfl⟩
end Go.Proofs.Ytpbmehigklikdaa.Sp
