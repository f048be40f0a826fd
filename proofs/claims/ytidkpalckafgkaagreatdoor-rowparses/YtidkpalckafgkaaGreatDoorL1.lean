/- Walks: the law RowParses. -/
import Derived.Test.YtidkpalckafgkaaGreatDoorAL
namespace Go.Proofs.YtidkpalckafgkaaGreatDoor.Rw
open Go Go.RowKit Go.Sort Go.Lib Tg Pk Ky Qy

set_option maxHeartbeats 1000000 in
theorem parses_walk (B : Nat) (s : ByteArray) (w : World) (hE : Env w) (hF : St.Env B w) :
    Calls Tryz.prog 4 #[.string s] w fun e w' => e = .returned (.bool true) ∧ Below w.heap.size w w' := by
  have HA := Lib.hid (alive_any B w hE hF)
  by_cases hl : 500 < s.size
  · go_enter Tryz.func4, Tryz.ntmps4
    go_wp2_with (first | (go_at_call 9; refine (HA.out).mono ?_; rintro e w1 ⟨rfl, d1⟩))
    go_ret
    exact ⟨rfl, d1⟩
  · have hps : ∀ x ∈ partsB 59 s, x.size ≤ 900 := fun x hx => by have := part_le hx; omega
    have H1 := Lib.hid (fun W (h : Env W) (hf : St.Env B W) => rparse_any B s W h hf (by omega) hps)
    have H2 := Lib.hid (fun W => refRparse_any s W (by omega) hps)
    have hlen : (rparse s.data.toList).1.length ≤ 1000 := by have := rparse_len s.data.toList; rw [← size_list] at this; omega
    clear hps
    generalize rparse s.data.toList = C at *
    obtain ⟨R, er⟩ := C
    dsimp only at *
    have qe : (er == er) = true := by simp
    have qs : sameR R R = true := (sameR_true R R).2 rfl
    go_enter Tryz.func4, Tryz.ntmps4
    go_wp2_with (first | (go_at_call 9; refine (HA.out).mono ?_; rintro e w1 ⟨rfl, d1⟩))
    have hE1 := hE.go d1
    have hF1 := hF.go d1
    refine (H1.out _ hE1 hF1).mono ?_
    rintro e w2 ⟨⟨_, rfl, r2⟩, n2⟩
    have d2 := d1.trans (n2.mono d1.size)
    have R2 := Lib.hid r2
    obtain ⟨a1, c1, rfl, _, _⟩ := r2
    clear n2 d1 hE1 hF1 HA
    go_wp2_with fail
    refine (H2.out _).mono ?_
    rintro e w3 ⟨⟨_, rfl, r3⟩, n3⟩
    have R3 := Lib.hid r3
    have R2 := Lib.hid (R2.out.on n3)
    obtain ⟨a2, c2, rfl, _, _⟩ := r3
    have d3 := d2.trans (n3.mono d2.size)
    clear n3 d2
    go_wp2_with fail
    refine (refSame_any _ _ R R _ R2.out R3.out (by omega)).mono ?_
    rw [qs]
    rintro e w4 ⟨rfl, n4⟩
    have d4 := d3.trans (n4.mono d3.size)
    go_wp2_with fail
    go_ret
    exact ⟨rfl, d4⟩

end Go.Proofs.YtidkpalckafgkaaGreatDoor.Rw
