/- Walk over Own12: the law SpreadHashes. -/
import Derived.Test.YtpbmehigklikdaaV12
namespace Go.Proofs.Ytpbmehigklikdaa.Sp
open Go Go.RowKit

set_option maxHeartbeats 1000000 in
theorem hashes_walk (O : Own12) (HA0 : ∀ w : World, Calls Try.prog 7 #[] w fun e w' => e = .returned (.bool true) ∧ Below w.heap.size w w') (s : ByteArray) (n : Int) (w : World) (h1 : -9223372036854775808 ≤ n) (h2 : n ≤ 9223372036854775807) (hz : s.size ≤ 281474976710656) :
    Calls Try.prog 3 #[.string s, .int .i64 n] w fun e w' => e = .returned (.bool true) ∧ Below w.heap.size w w' := by
  have HAl := Lib.hid HA0
  by_cases hs : 2000 < s.size
  · have hs' : (2000 : Int) < (s.size : Int) := by omega
    clear HA0
    go_enter Try.func3, Try.ntmps3
    go_wp2_with (go_at_call 7; refine (HAl.out _).mono ?_; rintro e w1 ⟨rfl, n1⟩)
    go_ret
    exact ⟨rfl, n1⟩
  · have HO := Lib.hid (fun W => O.of s n W (by omega) h1 h2)
    have HH := Lib.hid (fun W => O.hash s W (by omega))
    have HR := Lib.hid (fun W => hash_ref s W (by omega))
    have HF := Lib.hid (fun W => of_ref s n W (by omega))
    have hlt := shardOf_lt s n
    have hm : (shardOf s n : Int) < max n 1 := by
      have h3 : shardsOf n ≤ (max n 1).toNat := by unfold shardsOf; split <;> omega
      omega
    have hs' : ¬ (2000 : Int) < (s.size : Int) := by omega
    have q1 : (((hashS s : Nat) : Int) == ((hashS s : Nat) : Int)) = true := by simp
    clear HA0 O hlt
    generalize hashS s = H at *
    generalize shardOf s n = F at *
    go_enter Try.func3, Try.ntmps3
    go_wp2_with (first
      | (go_at_call 7; refine (HAl.out _).mono ?_; rintro e w1 ⟨rfl, n1⟩)
      | (go_at_call 8; refine (HO.out _).mono ?_; rintro e w2 ⟨rfl, n2⟩)
      | (go_at_call 9; refine (HH.out _).mono ?_; rintro e w3 ⟨rfl, n3⟩)
      | (go_at_call 10; refine (HR.out _).mono ?_; rintro e w4 ⟨rfl, rfl⟩)
      | (go_at_call 11; refine (HF.out _).mono ?_; rintro e w5 ⟨rfl, rfl⟩))
    all_goals go_ret
    all_goals refine ⟨?_, n1.trans ((n2.trans (n3.mono n2.size)).mono n1.size)⟩
    all_goals (first | rfl | (simp; omega))
end Go.Proofs.Ytpbmehigklikdaa.Sp
