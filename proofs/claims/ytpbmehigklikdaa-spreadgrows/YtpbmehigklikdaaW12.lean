/- Walks of spread: the hash of a text, its shard. -/
import Derived.Test.YtpbmehigklikdaaM12
import Derived.Test.YtpbmehigklikdaaH0
import Derived.Laws.Bits64
namespace Go.Proofs.Ytpbmehigklikdaa.Sp
open Go Go.RowKit

theorem xor64 (h b : Nat) (hh : h < 4294967296) (hb : b < 256) : bits .xor .u64 (h : Int) (b : Int) = ((h ^^^ b : Nat) : Int) := bits_xor_u64_nat _ _ (by omega) (by omega)
theorem step64 (h b : Nat) : Int.tmod (((h ^^^ b : Nat) : Int) * 16777619) 4294967296 = (hstep h b : Int) := by
  unfold hstep
  generalize h ^^^ b = x
  rw [Int.tmod_eq_emod_of_nonneg (by omega)]
  omega

set_option maxHeartbeats 400000 in
/-- The document's hash. -/
theorem hash_ref (s : ByteArray) (w : World) (hn : s.size ≤ 1000000000) :
    Calls Try.prog 10 #[.string s] w fun e w' => e = .returned (.int .u32 (hashS s : Int)) ∧ w' = w := by
  go_enter Try.func10, Try.ntmps10
  go_wp2_with fail
  go_loop [3, 4] (fun h i => ∃ k : Nat, k ≤ s.size ∧ i = .int .i64 k ∧ h = .int .u64 (hashL (s.data.toList.take k) : Int)) (fun _ i => s.size - (intOf i).toNat)
  case atStart => exact ⟨0, Nat.zero_le _, rfl, rfl⟩
  case round =>
    obtain ⟨k, hk, rfl, rfl⟩ := hrel
    have HL := hashL_lt (s.data.toList.take k)
    by_cases hlt : k < s.size
    · have HN := hash_next s k hlt
      have hb : (s[k]).toNat < 256 := UInt8.toNat_lt _
      have e1 := xor64 _ _ HL hb
      have e2 := step64 (hashL (s.data.toList.take k)) (s[k]).toNat
      have e3 := xor_lt _ _ HL hb
      rw [← HN] at e2
      have HM := hashL_lt (s.data.toList.take (k + 1))
      obtain ⟨A, hA⟩ : ∃ A, A = hashL (s.data.toList.take k) := ⟨_, rfl⟩
      obtain ⟨B, hB⟩ : ∃ B, B = hashL (s.data.toList.take (k + 1)) := ⟨_, rfl⟩
      obtain ⟨X, hX⟩ : ∃ X, X = A ^^^ (s[k]).toNat := ⟨_, rfl⟩
      rw [← hA] at e1 e2 e3 HL ⊢
      rw [← hB] at e2 HM
      rw [← hX] at e1 e2 e3
      have HB := Lib.hid hB
      clear hA hB hX HN
      have i1 : (k : Int) < (s.size : Int) := by omega
      go_wp2_with fail
      exact ⟨⟨k + 1, by omega, by go_num, by rw [HB.out]⟩, by simp [intOf]; omega⟩
    · have hke : k = s.size := by omega
      subst hke
      rw [hash_all] at HL ⊢
      go_wp2_with fail
      go_ret
      exact ⟨rfl, rfl⟩

theorem tmodN (h : Nat) (n : Int) (h1 : 1 ≤ n) : Int.tmod (h : Int) n = ((h % n.toNat : Nat) : Int) := by
  obtain ⟨m, rfl⟩ : ∃ m : Nat, n = m := ⟨n.toNat, by omega⟩
  rw [Int.tmod_eq_emod_of_nonneg (by omega)]
  simp
set_option maxHeartbeats 400000 in
/-- The document's shard of a text. -/
theorem of_ref (s : ByteArray) (n : Int) (w : World) (hn : s.size ≤ 1000000000) :
    Calls Try.prog 11 #[.string s, .int .i64 n] w fun e w' => e = .returned (.int .i64 (shardOf s n : Int)) ∧ w' = w := by
  have HR := Lib.hid (hash_ref s w hn)
  by_cases h1 : n < 1
  · have hv : shardOf s n = 0 := by unfold shardOf; rw [if_pos (Or.inl h1)]
    rw [hv]
    clear hv HR
    go_enter Try.func11, Try.ntmps11
    go_wp2_with fail
    go_ret
    exact ⟨rfl, rfl⟩
  · by_cases h2 : 4 < n
    · have hv : shardOf s n = 0 := by unfold shardOf; rw [if_pos (Or.inr h2)]
      rw [hv]
      clear hv HR
      go_enter Try.func11, Try.ntmps11
      go_wp2_with fail
      go_ret
      exact ⟨rfl, rfl⟩
    · have hv : shardOf s n = hashS s % n.toNat := by unfold shardOf; rw [if_neg (by omega)]
      have HH := hashS_lt s
      have e1 := tmodN (hashS s) n (by omega)
      have hl : hashS s % n.toNat < n.toNat := Nat.mod_lt _ (by omega)
      rw [hv]
      generalize hx : hashS s % n.toNat = x at *
      generalize hashS s = H at *
      have z1 : ¬ n = 0 := by omega
      have z2 : (n == 0) = false := by simp [z1]
      clear hv hx
      go_enter Try.func11, Try.ntmps11
      go_wp2_with (go_at_call 10; refine (HR.out).mono ?_; rintro e w' ⟨rfl, rfl⟩)
      go_ret
      exact ⟨rfl, rfl⟩

end Go.Proofs.Ytpbmehigklikdaa.Sp
