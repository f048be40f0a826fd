/- Walks: the law RowBack. -/
import Derived.Test.YtidkpalckafgkaaGreatDoorAL
namespace Go.Proofs.YtidkpalckafgkaaGreatDoor.Rw
open Go Go.RowKit Go.Sort Go.Lib Tg Pk Ky Qy

set_option maxRecDepth 100000 in
set_option maxHeartbeats 2000000 in
theorem back_great (B : Nat) (v1 : Value) (l : List Row) (s : ByteArray) (w : World) (hE : Env w) (hF : St.Env B w) (h1 : RRow w v1 l) (z1 : ∀ r ∈ l, r.grp.size ≤ 281474976710656) (hg : greatR l = true) :
    Calls Tryz.prog 7 #[v1, .string s] w fun e w' => e = .returned (.bool true) ∧ Below w.heap.size w w' := by
  have HA := Lib.hid (alive_any B w hE hF)
  have G1 := Lib.hid (fun W (d : Below w.heap.size w W) => greatR_any v1 l W (h1.on d) z1)
  clear z1
  rw [hg] at G1
  clear hg hE hF
  obtain ⟨a, c, rfl, hc1, hl1⟩ := h1
  clear hl1
  go_enter Tryz.func7, Tryz.ntmps7
  go_wp2_with (first | (go_at_call 9; refine (HA.out).mono ?_; rintro e w1 ⟨rfl, d1⟩))
  refine (G1.out w1 d1).mono ?_
  rintro e w2 ⟨rfl, rfl⟩
  go_wp2_with fail
  go_ret
  exact ⟨rfl, d1⟩
set_option maxRecDepth 100000 in
set_option maxHeartbeats 2000000 in
theorem back_long (B : Nat) (v1 : Value) (l : List Row) (s : ByteArray) (w : World) (hE : Env w) (hF : St.Env B w) (h1 : RRow w v1 l) (z1 : ∀ r ∈ l, r.grp.size ≤ 281474976710656) (hg : greatR l = false) (hl : 500 < s.size) :
    Calls Tryz.prog 7 #[v1, .string s] w fun e w' => e = .returned (.bool true) ∧ Below w.heap.size w w' := by
  have HA := Lib.hid (alive_any B w hE hF)
  have G1 := Lib.hid (fun W (d : Below w.heap.size w W) => greatR_any v1 l W (h1.on d) z1)
  clear z1
  rw [hg] at G1
  clear hg hE hF
  obtain ⟨a, c, rfl, hc1, hl1⟩ := h1
  clear hl1
  go_enter Tryz.func7, Tryz.ntmps7
  go_wp2_with (first | (go_at_call 9; refine (HA.out).mono ?_; rintro e w1 ⟨rfl, d1⟩))
  refine (G1.out w1 d1).mono ?_
  rintro e w2 ⟨rfl, rfl⟩
  go_wp2_with fail
  go_ret
  exact ⟨rfl, d1⟩
set_option maxRecDepth 100000 in
set_option maxHeartbeats 2000000 in
theorem back_ne (B : Nat) (v1 : Value) (l : List Row) (s : ByteArray) (w : World) (hE : Env w) (hF : St.Env B w) (h1 : RRow w v1 l) (z1 : ∀ r ∈ l, r.grp.size ≤ 281474976710656) (hg : greatR l = false) (hl : ¬ 500 < s.size) (hr : rright l = false) (hp : ¬ (rparse s.data.toList).2 = 0) :
    Calls Tryz.prog 7 #[v1, .string s] w fun e w' => e = .returned (.bool true) ∧ Below w.heap.size w w' := by
  have HA := Lib.hid (alive_any B w hE hF)
  have G1 := Lib.hid (fun W (d : Below w.heap.size w W) => greatR_any v1 l W (h1.on d) z1)
  clear z1
  obtain ⟨n1, s1⟩ := greatR_not hg
  rw [hg] at G1
  have s1' : ∀ r ∈ l, r.grp.size ≤ 900 := fun r hr => by have := s1 r hr; omega
  have R2 := Lib.hid (fun W (d : Below w.heap.size w W) => refRright_any v1 l W (h1.on d) (by omega) s1')
  rw [hr] at R2
  have hps : ∀ x ∈ partsB 59 s, x.size ≤ 900 := fun x hx => by have := part_le hx; omega
  have P2 := Lib.hid (fun W (h : Env W) (hf : St.Env B W) => rparse_any B s W h hf (by omega) hps)
  have hlen : (rparse s.data.toList).1.length ≤ 1000 := by have := rparse_len s.data.toList; rw [← size_list] at this; omega
  rw [rparse_err hp] at P2
  have qe : ((rparse s.data.toList).2 != 0) = true := by simp [hp]
  have qe2 : ((rparse s.data.toList).2 == 0) = false := by simp [hp]
  clear s1 s1' hps hp hr hg
  generalize rparse s.data.toList = C at *
  obtain ⟨M, er⟩ := C
  dsimp only at *
  obtain ⟨a, c, rfl, hc1, hl1⟩ := h1
  clear hl1
  go_enter Tryz.func7, Tryz.ntmps7
  go_wp2_with (first | (go_at_call 9; refine (HA.out).mono ?_; rintro e w1 ⟨rfl, d1⟩))
  refine (G1.out w1 d1).mono ?_
  rintro e w2 ⟨rfl, rfl⟩
  go_wp2_with fail
  refine (R2.out w2 d1).mono ?_
  rintro e w3 ⟨rfl, n3⟩
  have d3 := d1.trans (n3.mono d1.size)
  clear n3 d1 HA G1 R2
  go_wp2_with fail
  refine (P2.out w3 (hE.go d3) (hF.go d3)).mono ?_
  rintro e w7 ⟨⟨_, rfl, r7⟩, n7⟩
  have d7 := d3.trans (n7.mono d3.size)
  have R7 := Lib.hid r7
  obtain ⟨a7, c7, rfl, _, _⟩ := r7
  clear n7 P2
  go_wp2_with fail
  go_ret
  exact ⟨rfl, d7⟩
set_option maxRecDepth 100000 in
set_option maxHeartbeats 2000000 in
theorem back_no (B : Nat) (v1 : Value) (l : List Row) (s : ByteArray) (w : World) (hE : Env w) (hF : St.Env B w) (h1 : RRow w v1 l) (z1 : ∀ r ∈ l, r.grp.size ≤ 281474976710656) (hg : greatR l = false) (hl : ¬ 500 < s.size) (hr : rright l = false) (hp : (rparse s.data.toList).2 = 0) :
    Calls Tryz.prog 7 #[v1, .string s] w fun e w' => e = .returned (.bool true) ∧ Below w.heap.size w w' := by
  have HA := Lib.hid (alive_any B w hE hF)
  have G1 := Lib.hid (fun W (d : Below w.heap.size w W) => greatR_any v1 l W (h1.on d) z1)
  clear z1
  obtain ⟨n1, s1⟩ := greatR_not hg
  rw [hg] at G1
  have s1' : ∀ r ∈ l, r.grp.size ≤ 900 := fun r hr => by have := s1 r hr; omega
  have R2 := Lib.hid (fun W (d : Below w.heap.size w W) => refRright_any v1 l W (h1.on d) (by omega) s1')
  rw [hr] at R2
  have hps : ∀ x ∈ partsB 59 s, x.size ≤ 900 := fun x hx => by have := part_le hx; omega
  have P2 := Lib.hid (fun W (h : Env W) (hf : St.Env B W) => rparse_any B s W h hf (by omega) hps)
  have hlen : (rparse s.data.toList).1.length ≤ 1000 := by have := rparse_len s.data.toList; rw [← size_list] at this; omega
  obtain ⟨b1, b2, b3⟩ := rparse_back hp
  obtain ⟨b4, _⟩ := rright_true.1 b2
  have b5 : ∀ r ∈ (rparse s.data.toList).1, r.grp.size ≤ 200 := fun r hr => grp_small (b4 r hr)
  have b6 : rtextB (rparse s.data.toList).1 = s := bb_inj (by rw [rtextB_list]; exact b1)
  have T3 := Lib.hid (fun W (hf : St.Env B W) v (hv : RRow W v (rparse s.data.toList).1) => rtext_any B v _ W hv hf b3 (by omega) (fun r hr => by have := b5 r hr; omega) (by rw [b6]; omega))
  rw [b6] at T3
  have R3 := Lib.hid (fun W v (hv : RRow W v (rparse s.data.toList).1) => refRright_any v _ W hv (by omega) (fun r hr => by have := b5 r hr; omega))
  rw [b2] at R3
  rw [hp] at P2
  have qs : (s.toList == s.toList) = true := by simp
  clear b1 b2 b3 b4 b5 b6
  clear s1 s1' hps hp hr hg
  generalize rparse s.data.toList = C at *
  obtain ⟨M, er⟩ := C
  dsimp only at *
  obtain ⟨a, c, rfl, hc1, hl1⟩ := h1
  clear hl1
  go_enter Tryz.func7, Tryz.ntmps7
  go_wp2_with (first | (go_at_call 9; refine (HA.out).mono ?_; rintro e w1 ⟨rfl, d1⟩))
  refine (G1.out w1 d1).mono ?_
  rintro e w2 ⟨rfl, rfl⟩
  go_wp2_with fail
  refine (R2.out w2 d1).mono ?_
  rintro e w3 ⟨rfl, n3⟩
  have d3 := d1.trans (n3.mono d1.size)
  clear n3 d1 HA G1 R2
  go_wp2_with fail
  refine (P2.out w3 (hE.go d3) (hF.go d3)).mono ?_
  rintro e w7 ⟨⟨_, rfl, r7⟩, n7⟩
  have d7 := d3.trans (n7.mono d3.size)
  have R7 := Lib.hid r7
  obtain ⟨a7, c7, rfl, _, _⟩ := r7
  clear n7 P2
  go_wp2_with fail
  refine (T3.out w7 (hF.go d7) _ R7.out).mono ?_
  rintro e w8 ⟨rfl, n8⟩
  have d8 := d7.trans (n8.mono d7.size)
  have R8 := Lib.hid (R7.out.on n8)
  clear n8 T3 R7
  go_wp2_with fail
  refine (R3.out w8 _ R8.out).mono ?_
  rintro e w9 ⟨rfl, n9⟩
  have d9 := d8.trans (n9.mono d8.size)
  go_wp2_with fail
  go_ret
  exact ⟨rfl, d9⟩
set_option maxRecDepth 100000 in
set_option maxHeartbeats 2000000 in
theorem back_re (B : Nat) (v1 : Value) (l : List Row) (s : ByteArray) (w : World) (hE : Env w) (hF : St.Env B w) (h1 : RRow w v1 l) (o1 : ∀ r ∈ l, okR r) (z1 : ∀ r ∈ l, r.grp.size ≤ 281474976710656) (hg : greatR l = false) (hl : ¬ 500 < s.size) (hr : rright l = true) (hp : ¬ (rparse s.data.toList).2 = 0) :
    Calls Tryz.prog 7 #[v1, .string s] w fun e w' => e = .returned (.bool true) ∧ Below w.heap.size w w' := by
  have HA := Lib.hid (alive_any B w hE hF)
  have G1 := Lib.hid (fun W (d : Below w.heap.size w W) => greatR_any v1 l W (h1.on d) z1)
  clear z1
  obtain ⟨n1, s1⟩ := greatR_not hg
  rw [hg] at G1
  have s1' : ∀ r ∈ l, r.grp.size ≤ 900 := fun r hr => by have := s1 r hr; omega
  have R2 := Lib.hid (fun W (d : Below w.heap.size w W) => refRright_any v1 l W (h1.on d) (by omega) s1')
  rw [hr] at R2
  have hps : ∀ x ∈ partsB 59 s, x.size ≤ 900 := fun x hx => by have := part_le hx; omega
  have P2 := Lib.hid (fun W (h : Env W) (hf : St.Env B W) => rparse_any B s W h hf (by omega) hps)
  have hlen : (rparse s.data.toList).1.length ≤ 1000 := by have := rparse_len s.data.toList; rw [← size_list] at this; omega
  have s1'' : ∀ r ∈ l, r.grp.size ≤ 100000 := fun r hr => by have := s1 r hr; omega
  have hz : (rtextB l).size ≤ 50000 := by
    have h3 := rtextB_size 300 o1 s1
    have : l.length * (300 + 51) ≤ 100 * (300 + 51) := Nat.mul_le_mul_right _ n1
    omega
  have T1 := Lib.hid (fun W (d : Below w.heap.size w W) => rtext_any B v1 l W (h1.on d) (hF.go d) o1 (by omega) s1'' (by omega))
  have P1 := Lib.hid (fun W (h : Env W) (hf : St.Env B W) => rparse_any B (rtextB l) W h hf (by omega) (rtext_part_small hr o1))
  rw [rtextB_list, rparse_text hr o1] at P1
  have S1 := Lib.hid (fun W (d : Below w.heap.size w W) v (hv : RRow W v l) => refSame_any v v1 l l W hv (h1.on d) (by omega))
  rw [(sameR_true l l).2 rfl] at S1
  generalize rtextB l = tx at *
  clear hz
  rw [rparse_err hp] at P2
  have qe : ((rparse s.data.toList).2 != 0) = true := by simp [hp]
  have qe2 : ((rparse s.data.toList).2 == 0) = false := by simp [hp]
  clear s1 s1' hps hp hr hg o1 s1''
  generalize rparse s.data.toList = C at *
  obtain ⟨M, er⟩ := C
  dsimp only at *
  obtain ⟨a, c, rfl, hc1, hl1⟩ := h1
  clear hl1
  go_enter Tryz.func7, Tryz.ntmps7
  go_wp2_with (first | (go_at_call 9; refine (HA.out).mono ?_; rintro e w1 ⟨rfl, d1⟩))
  refine (G1.out w1 d1).mono ?_
  rintro e w2 ⟨rfl, rfl⟩
  go_wp2_with fail
  refine (R2.out w2 d1).mono ?_
  rintro e w3 ⟨rfl, n3⟩
  have d3 := d1.trans (n3.mono d1.size)
  clear n3 d1 HA G1 R2
  go_wp2_with fail
  refine (T1.out w3 d3).mono ?_
  rintro e w4 ⟨rfl, n4⟩
  have d4 := d3.trans (n4.mono d3.size)
  clear n4 d3 T1
  go_wp2_with fail
  refine (P1.out w4 (hE.go d4) (hF.go d4)).mono ?_
  rintro e w5 ⟨⟨_, rfl, r5⟩, n5⟩
  have d5 := d4.trans (n5.mono d4.size)
  have R5 := Lib.hid r5
  obtain ⟨a5, c5, rfl, _, _⟩ := r5
  clear n5 d4 P1
  go_wp2_with fail
  refine (S1.out w5 d5 _ R5.out).mono ?_
  rintro e w6 ⟨rfl, n6⟩
  have d5 := d5.trans (n6.mono d5.size)
  clear S1 R5 n6
  go_wp2_with fail
  refine (P2.out w6 (hE.go d5) (hF.go d5)).mono ?_
  rintro e w7 ⟨⟨_, rfl, r7⟩, n7⟩
  have d7 := d5.trans (n7.mono d5.size)
  have R7 := Lib.hid r7
  obtain ⟨a7, c7, rfl, _, _⟩ := r7
  clear n7 P2
  go_wp2_with fail
  go_ret
  exact ⟨rfl, d7⟩
set_option maxRecDepth 100000 in
set_option maxHeartbeats 2000000 in
theorem back_ro (B : Nat) (v1 : Value) (l : List Row) (s : ByteArray) (w : World) (hE : Env w) (hF : St.Env B w) (h1 : RRow w v1 l) (o1 : ∀ r ∈ l, okR r) (z1 : ∀ r ∈ l, r.grp.size ≤ 281474976710656) (hg : greatR l = false) (hl : ¬ 500 < s.size) (hr : rright l = true) (hp : (rparse s.data.toList).2 = 0) :
    Calls Tryz.prog 7 #[v1, .string s] w fun e w' => e = .returned (.bool true) ∧ Below w.heap.size w w' := by
  have HA := Lib.hid (alive_any B w hE hF)
  have G1 := Lib.hid (fun W (d : Below w.heap.size w W) => greatR_any v1 l W (h1.on d) z1)
  clear z1
  obtain ⟨n1, s1⟩ := greatR_not hg
  rw [hg] at G1
  have s1' : ∀ r ∈ l, r.grp.size ≤ 900 := fun r hr => by have := s1 r hr; omega
  have R2 := Lib.hid (fun W (d : Below w.heap.size w W) => refRright_any v1 l W (h1.on d) (by omega) s1')
  rw [hr] at R2
  have hps : ∀ x ∈ partsB 59 s, x.size ≤ 900 := fun x hx => by have := part_le hx; omega
  have P2 := Lib.hid (fun W (h : Env W) (hf : St.Env B W) => rparse_any B s W h hf (by omega) hps)
  have hlen : (rparse s.data.toList).1.length ≤ 1000 := by have := rparse_len s.data.toList; rw [← size_list] at this; omega
  have s1'' : ∀ r ∈ l, r.grp.size ≤ 100000 := fun r hr => by have := s1 r hr; omega
  have hz : (rtextB l).size ≤ 50000 := by
    have h3 := rtextB_size 300 o1 s1
    have : l.length * (300 + 51) ≤ 100 * (300 + 51) := Nat.mul_le_mul_right _ n1
    omega
  have T1 := Lib.hid (fun W (d : Below w.heap.size w W) => rtext_any B v1 l W (h1.on d) (hF.go d) o1 (by omega) s1'' (by omega))
  have P1 := Lib.hid (fun W (h : Env W) (hf : St.Env B W) => rparse_any B (rtextB l) W h hf (by omega) (rtext_part_small hr o1))
  rw [rtextB_list, rparse_text hr o1] at P1
  have S1 := Lib.hid (fun W (d : Below w.heap.size w W) v (hv : RRow W v l) => refSame_any v v1 l l W hv (h1.on d) (by omega))
  rw [(sameR_true l l).2 rfl] at S1
  generalize rtextB l = tx at *
  clear hz
  obtain ⟨b1, b2, b3⟩ := rparse_back hp
  obtain ⟨b4, _⟩ := rright_true.1 b2
  have b5 : ∀ r ∈ (rparse s.data.toList).1, r.grp.size ≤ 200 := fun r hr => grp_small (b4 r hr)
  have b6 : rtextB (rparse s.data.toList).1 = s := bb_inj (by rw [rtextB_list]; exact b1)
  have T3 := Lib.hid (fun W (hf : St.Env B W) v (hv : RRow W v (rparse s.data.toList).1) => rtext_any B v _ W hv hf b3 (by omega) (fun r hr => by have := b5 r hr; omega) (by rw [b6]; omega))
  rw [b6] at T3
  have R3 := Lib.hid (fun W v (hv : RRow W v (rparse s.data.toList).1) => refRright_any v _ W hv (by omega) (fun r hr => by have := b5 r hr; omega))
  rw [b2] at R3
  rw [hp] at P2
  have qs : (s.toList == s.toList) = true := by simp
  clear b1 b2 b3 b4 b5 b6
  clear s1 s1' hps hp hr hg o1 s1''
  generalize rparse s.data.toList = C at *
  obtain ⟨M, er⟩ := C
  dsimp only at *
  obtain ⟨a, c, rfl, hc1, hl1⟩ := h1
  clear hl1
  go_enter Tryz.func7, Tryz.ntmps7
  go_wp2_with (first | (go_at_call 9; refine (HA.out).mono ?_; rintro e w1 ⟨rfl, d1⟩))
  refine (G1.out w1 d1).mono ?_
  rintro e w2 ⟨rfl, rfl⟩
  go_wp2_with fail
  refine (R2.out w2 d1).mono ?_
  rintro e w3 ⟨rfl, n3⟩
  have d3 := d1.trans (n3.mono d1.size)
  clear n3 d1 HA G1 R2
  go_wp2_with fail
  refine (T1.out w3 d3).mono ?_
  rintro e w4 ⟨rfl, n4⟩
  have d4 := d3.trans (n4.mono d3.size)
  clear n4 d3 T1
  go_wp2_with fail
  refine (P1.out w4 (hE.go d4) (hF.go d4)).mono ?_
  rintro e w5 ⟨⟨_, rfl, r5⟩, n5⟩
  have d5 := d4.trans (n5.mono d4.size)
  have R5 := Lib.hid r5
  obtain ⟨a5, c5, rfl, _, _⟩ := r5
  clear n5 d4 P1
  go_wp2_with fail
  refine (S1.out w5 d5 _ R5.out).mono ?_
  rintro e w6 ⟨rfl, n6⟩
  have d5 := d5.trans (n6.mono d5.size)
  clear S1 R5 n6
  go_wp2_with fail
  refine (P2.out w6 (hE.go d5) (hF.go d5)).mono ?_
  rintro e w7 ⟨⟨_, rfl, r7⟩, n7⟩
  have d7 := d5.trans (n7.mono d5.size)
  have R7 := Lib.hid r7
  obtain ⟨a7, c7, rfl, _, _⟩ := r7
  clear n7 P2
  go_wp2_with fail
  refine (T3.out w7 (hF.go d7) _ R7.out).mono ?_
  rintro e w8 ⟨rfl, n8⟩
  have d8 := d7.trans (n8.mono d7.size)
  have R8 := Lib.hid (R7.out.on n8)
  clear n8 T3 R7
  go_wp2_with fail
  refine (R3.out w8 _ R8.out).mono ?_
  rintro e w9 ⟨rfl, n9⟩
  have d9 := d8.trans (n9.mono d8.size)
  go_wp2_with fail
  go_ret
  exact ⟨rfl, d9⟩
theorem back_walk (B : Nat) (v1 : Value) (l : List Row) (s : ByteArray) (w : World) (hE : Env w) (hF : St.Env B w) (h1 : RRow w v1 l) (o1 : ∀ r ∈ l, okR r) (z1 : ∀ r ∈ l, r.grp.size ≤ 281474976710656) :
    Calls Tryz.prog 7 #[v1, .string s] w fun e w' => e = .returned (.bool true) ∧ Below w.heap.size w w' := by
  cases hg : greatR l
  · by_cases hl : 500 < s.size
    · exact back_long B v1 l s w hE hF h1 z1 hg hl
    · cases hr : rright l
      · by_cases hp : (rparse s.data.toList).2 = 0
        · exact back_no B v1 l s w hE hF h1 z1 hg hl hr hp
        · exact back_ne B v1 l s w hE hF h1 z1 hg hl hr hp
      · by_cases hp : (rparse s.data.toList).2 = 0
        · exact back_ro B v1 l s w hE hF h1 o1 z1 hg hl hr hp
        · exact back_re B v1 l s w hE hF h1 o1 z1 hg hl hr hp
  · exact back_great B v1 l s w hE hF h1 z1 hg

end Go.Proofs.YtidkpalckafgkaaGreatDoor.Rw
