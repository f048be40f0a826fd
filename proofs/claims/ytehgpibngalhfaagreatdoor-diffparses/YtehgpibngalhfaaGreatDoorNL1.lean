/- Walks: the law DiffParses. -/
import Derived.Test.YtehgpibngalhfaaGreatDoorNA
namespace Go.Proofs.YtehgpibngalhfaaGreatDoor.Rw
open Go Go.RowKit Go.Sort Go.Lib Tg Pk Ky Qy Df

set_option maxRecDepth 100000 in
set_option maxHeartbeats 2000000 in
theorem parses_walk (B : Nat) (O : Own9 B) (s : ByteArray) (w : World) (hE : Env w) (hF : St.Env B w) (hs : s.size ≤ 281474976710656) :
    Calls Tryz.prog 5 #[.string s] w fun e w' => e = .returned (.bool true) ∧ Below w.heap.size w w' := by
  have HA := Lib.hid (alive_any B O w hE hF)
  by_cases h500 : 500 < s.size
  · have hz : (500 : Int) < (s.size : Int) := by omega
    go_enter Tryz.func5, Tryz.ntmps5
    go_wp2_with fail
    refine (HA.out).mono ?_
    rintro e w1 ⟨rfl, d1⟩
    go_wp2_with fail
    go_ret
    exact ⟨rfl, d1⟩
  · have hz : ¬ (500 : Int) < (s.size : Int) := by omega
    have hsm : ∀ x ∈ partsB 59 s, x.size ≤ 890 := fun x hx => by have := part_le hx; omega
    have P1 := Lib.hid (fun W (d : Below w.heap.size w W) => O.parse s W (hE.go d) (hF.go d) (by omega) hsm)
    have P2 := Lib.hid (fun W => refCparse_any s W (by omega) (fun x hx => Nat.le_trans (hsm x hx) (by decide)))
    have hlen : (cparse s.data.toList).1.length ≤ 501 := by have := cparse_len s.data.toList; rw [← size_list] at this; omega
    have S := Lib.hid (fun W v1 v2 (h1 : CRow W v1 (cparse s.data.toList).1) (h2 : CRow W v2 (cparse s.data.toList).1) => refSameC_any v1 v2 _ _ W h1 h2 (by omega))
    rw [(sameC_true _ _).2 rfl] at S
    by_cases hc : (cparse s.data.toList).2 = 0
    · obtain ⟨b1, b2, b3⟩ := cparse_back hc
      have b4 : ctextB (cparse s.data.toList).1 = s := bb_inj (by rw [ctextB_list, b1])
      have b5 : ∀ c ∈ (cparse s.data.toList).1, c.r.grp.size ≤ 100000 := fun c hc => by have := grpSmall ((cright_true.1 b2).2.1 c hc); omega
      have T := Lib.hid (fun W (d : Below w.heap.size w W) v (h : CRow W v (cparse s.data.toList).1) => O.text v _ W (hF.go d) h b3 (by omega) b5 (by rw [b4]; omega))
      rw [b4] at T
      rw [hc] at P1 P2
      clear b1 b2 b3 b4 b5 hc
      generalize (cparse s.data.toList).1 = L at *
      have q1 : (s.toList == s.toList) = true := by simp
      clear hsm
      go_enter Tryz.func5, Tryz.ntmps5
      go_wp2_with fail
      refine (HA.out).mono ?_
      rintro e w1 ⟨rfl, d1⟩
      go_wp2_with fail
      refine (P1.out _ d1).mono ?_
      rintro e w2 ⟨⟨_, rfl, r2⟩, n2⟩
      have R2 := Lib.hid r2
      have d2 := d1.trans (n2.mono d1.size)
      obtain ⟨a2, c2, rfl, -, -⟩ := r2
      clear P1 n2 d1
      go_wp2_with fail
      refine (P2.out _).mono ?_
      rintro e w3 ⟨⟨_, rfl, r3⟩, n3⟩
      have R2 := Lib.hid (R2.out.on n3)
      have R3 := Lib.hid r3
      have d3 := d2.trans (n3.mono d2.size)
      obtain ⟨a3, c3, rfl, -, -⟩ := r3
      clear P2 n3 d2
      go_wp2_with fail
      refine (S.out _ _ _ R2.out R3.out).mono ?_
      rintro e w4 ⟨rfl, n4⟩
      have R2 := Lib.hid (R2.out.on n4)
      have d4 := d3.trans (n4.mono d3.size)
      clear S n4 d3 R3
      go_wp2_with fail
      refine (T.out _ d4 _ R2.out).mono ?_
      rintro e w5 ⟨rfl, n5⟩
      have d5 := d4.trans (n5.mono d4.size)
      go_wp2_with fail
      go_ret
      exact ⟨rfl, d5⟩
    · generalize (cparse s.data.toList).2 = E at *
      generalize (cparse s.data.toList).1 = L at *
      have z1 : (E != 0) = true := by simp [hc]
      have z2 : (E == 0) = false := by simp [hc]
      have z3 : (E == E) = true := by simp
      have z4 : (E != E) = false := by simp
      clear hsm
      go_enter Tryz.func5, Tryz.ntmps5
      go_wp2_with fail
      refine (HA.out).mono ?_
      rintro e w1 ⟨rfl, d1⟩
      go_wp2_with fail
      refine (P1.out _ d1).mono ?_
      rintro e w2 ⟨⟨_, rfl, r2⟩, n2⟩
      have R2 := Lib.hid r2
      have d2 := d1.trans (n2.mono d1.size)
      obtain ⟨a2, c2, rfl, -, -⟩ := r2
      clear P1 n2 d1
      go_wp2_with fail
      refine (P2.out _).mono ?_
      rintro e w3 ⟨⟨_, rfl, r3⟩, n3⟩
      have R2 := Lib.hid (R2.out.on n3)
      have R3 := Lib.hid r3
      have d3 := d2.trans (n3.mono d2.size)
      obtain ⟨a3, c3, rfl, -, -⟩ := r3
      clear P2 n3 d2
      go_wp2_with fail
      refine (S.out _ _ _ R2.out R3.out).mono ?_
      rintro e w4 ⟨rfl, n4⟩
      have d4 := d3.trans (n4.mono d3.size)
      go_wp2_with fail
      go_ret
      exact ⟨rfl, d4⟩

end Go.Proofs.YtehgpibngalhfaaGreatDoor.Rw
