/- Walks: formed, Read and Parse. -/
import Derived.Test.YtmmpcaboedjjdaaDoorW2
namespace Go.Proofs.YtmmpcaboedjjdaaDoor
open Go Go.RowKit

theorem cut_eq (l : List UInt8) : Sat.cut l = (Lib.trimPrefix l [45], Lib.hasPrefix l [45]) := by
  cases l with
  | nil => simp [Sat.cut, Lib.trimPrefix, Lib.hasPrefix]
  | cons c r =>
    by_cases h : c = 45
    · subst h; simp [Sat.cut, Lib.trimPrefix, Lib.hasPrefix]
    · have h' : ((45 : UInt8) == c) = false := by simp; exact fun e => h e.symm
      simp [Sat.cut, Lib.trimPrefix, Lib.hasPrefix, h, h', List.isPrefixOf]

theorem cutMinus_any (s : ByteArray) (w : World) :
    Calls Tryd.prog 29 #[.string s, .string ⟨#[45]⟩] w fun e w' => (∃ D : ByteArray, D.data.toList = (Sat.cut s.data.toList).1 ∧ e = .returned (.tuple #[.string D, .bool (Sat.cut s.data.toList).2])) ∧ w' = w := by
  refine (Tryd.strings_CutPrefix s ⟨#[45]⟩ w).mono ?_
  rintro e w' ⟨rfl, rfl⟩
  rw [cut_eq]
  exact ⟨⟨_, by simp, rfl⟩, rfl⟩

theorem cut_len (l : List UInt8) : (Sat.cut l).1.length ≤ l.length := by
  unfold Sat.cut
  split
  · simp
  · split <;> simp

theorem size_list (D : ByteArray) : D.size = D.data.toList.length := by rw [Array.length_toList]; rfl

theorem list_head (l : List UInt8) (h : 0 < l.length) : l = l[0] :: l.tail := by
  cases l with
  | nil => cases h
  | cons c r => rfl
theorem head_list (D : ByteArray) (h : 0 < D.size) : D.data.toList = D[0] :: D.data.toList.tail :=
  list_head D.data.toList (by rw [← size_list]; exact h)

theorem form_no (d : List UInt8) (m : Bool) (h : (!allD d) = true) : Sat.formD d m = false := by
  cases d with
  | nil => rfl
  | cons c r =>
    simp [allD] at h
    simp [Sat.formD, h]
theorem allD_pos (D : ByteArray) (h : (!allD D.data.toList) = false) : 0 < D.size ∧ Sat.digs D.data.toList = true := by
  simp [allD] at h
  refine ⟨?_, h.1⟩
  rw [size_list]
  rcases Nat.eq_zero_or_pos D.data.toList.length with e | e
  · exact absurd (Array.ext' (show D.data.toList = (#[] : Array UInt8).toList from List.length_eq_zero_iff.1 e)) h.2
  · exact e
theorem form_zero (D : ByteArray) (m : Bool) (h : (!allD D.data.toList) = false) (hp : 0 < D.size) (h0 : (((D[0]).toNat : Int) == 48) = true) : Sat.formD D.data.toList m = (decide ((D.size : Int) = 1) && !m) := by
  have hd := (allD_pos D h).2
  have hs := size_list D
  have hh := head_list D hp
  have h48 : D[0] = 48 := by apply UInt8.toNat_inj.1; simp at h0; have h4 : (48 : UInt8).toNat = 48 := rfl; omega
  rw [hh] at hd hs ⊢
  rw [Sat.formD, hd, h48, if_pos rfl, Bool.true_and, hs]
  congr 1
  cases D.data.toList.tail with
  | nil => simp
  | cons a b => simp; omega
theorem form_other (D : ByteArray) (m : Bool) (h : (!allD D.data.toList) = false) (hp : 0 < D.size) (h0 : (((D[0]).toNat : Int) == 48) = false) : Sat.formD D.data.toList m = true := by
  have hd := (allD_pos D h).2
  have hh := head_list D hp
  have h48 : D[0] ≠ 48 := by intro e; rw [e] at h0; simp at h0
  rw [hh] at hd ⊢
  rw [Sat.formD, hd, if_neg h48, Bool.true_and]

set_option maxHeartbeats 400000 in
theorem formed_any (s : ByteArray) (w : World) (hs : s.size ≤ 9223372036854775807) :
    Calls Tryd.prog 25 #[.string s] w fun e w' => e = .returned (.bool (Sat.form s.data.toList)) ∧ w' = w := by
  have HF : Hid (Sat.form s.data.toList = Sat.formD (Sat.cut s.data.toList).1 (Sat.cut s.data.toList).2) := rfl
  have hl := cut_len s.data.toList
  rw [← size_list] at hl
  go_enter Tryd.func25, Tryd.ntmps25
  go_wp2_with (go_at_call 29; refine (cutMinus_any s _).mono ?_; rintro e w' ⟨⟨D, hD, rfl⟩, rfl⟩; rw [← hD] at hl HF; rw [← size_list] at hl; clear hD; generalize (Sat.cut s.data.toList).2 = m at *; refine Hid.out ?_)
  refine Lib.hid ?_
  by_cases ha : (!allD D.data.toList) = true
  · have HN : Hid (Sat.form s.data.toList = false) := by show _ = _; rw [HF.out]; exact form_no _ _ ha
    go_wp2_with (go_at_call 30; refine (allDigits_any D _ (by omega)).mono ?_; rintro e w' ⟨rfl, rfl⟩)
    go_ret
    exact ⟨ret_bool HN.out.symm, rfl⟩
  · have ha' : (!allD D.data.toList) = false := by simpa using ha
    clear ha
    have hp := (allD_pos D ha').1
    have HZ := Lib.hid (form_zero D m ha' hp)
    have HO := Lib.hid (form_other D m ha' hp)
    go_wp2_with (go_at_call 30; refine (allDigits_any D _ (by omega)).mono ?_; rintro e w' ⟨rfl, rfl⟩)
    · go_ret
      refine ⟨ret_bool ?_, rfl⟩
      rw [HF.out, HZ.out (by assumption)]
      have : (D.size : Int) = 1 := by assumption
      simp [this]
    · go_ret
      refine ⟨ret_bool ?_, rfl⟩
      rw [HF.out, HZ.out (by assumption)]
      have : ¬ (D.size : Int) = 1 := by assumption
      simp [this]
    · go_ret
      refine ⟨ret_bool ?_, rfl⟩
      rw [HF.out, HO.out (by assumption)]

set_option maxHeartbeats 400000 in
theorem read_any (B : Nat) (s : ByteArray) (w : World) (hE : Env B w) (hs : s.size ≤ 281474976710656) :
    Calls Tryd.prog 16 #[.string s] w fun e w' => e = .returned (.tuple #[.int .i64 (Sat.read s.data.toList).1, .int .i64 (Sat.read s.data.toList).2]) ∧ Below w.heap.size w w' := by
  cases hf : Sat.form s.data.toList with
  | false =>
    rw [Sat.read_noform hf]
    go_enter Tryd.func16, Tryd.ntmps16
    go_wp2_with (go_at_call 25; refine (formed_any s _ (by omega)).mono ?_; rintro e w' ⟨rfl, rfl⟩)
    go_ret2
    exact ⟨rfl, Below.refl _ _⟩
  | true =>
    rcases Sat.parse_form _ hf with ⟨hp, hr⟩ | ⟨hp, hr⟩
    · rw [hr]
      have HP := Lib.hid hp
      clear hr hp
      generalize (Sat.read s.data.toList).1 = v at *
      go_enter Tryd.func16, Tryd.ntmps16
      go_wp2_with (first | (go_at_call 25; refine (formed_any s _ (by omega)).mono ?_; rintro e w' ⟨rfl, rfl⟩) | (go_at_call 26; refine (Tryd.strconv_ParseInt_10_at64_ok s (by omega) v HP.out _).mono ?_; rintro e w1 ⟨rfl, hw⟩))
      go_ret2
      refine ⟨rfl, ?_⟩
      rcases hw with rfl | ⟨t, rfl⟩
      · exact Below.refl _ _
      · exact Lib.bytesWorld_below _ _ _
    · rw [hr]
      have HP := Lib.hid hp
      clear hr hp
      obtain ⟨tp, q, hv⟩ := hE.rng w (Below.refl _ _)
      have HV := Lib.hid hv
      clear hv
      go_enter Tryd.func16, Tryd.ntmps16
      go_wp2_with (first | (go_at_call 25; refine (formed_any s _ (by omega)).mono ?_; rintro e w' ⟨rfl, rfl⟩) | (go_at_call 26; refine (Tryd.strconv_ParseInt_10_at64_range_var s (by omega) HP.out tp q _ HV.out).mono ?_; rintro e w1 ⟨N, rfl, _, _, hw⟩))
      go_ret2
      exact ⟨rfl, hw⟩

/-- Parse: the sum and the error. -/
def bang (l : List UInt8) : Bool := Lib.hasSuffix l [33]
def sansBang (l : List UInt8) : List UInt8 := Lib.trimSuffix l [33]
def parseL (l : List UInt8) : Int × Bool × Int := if (Sat.read (sansBang l)).2 = 0 then ((Sat.read (sansBang l)).1, bang l, 0) else (0, false, (Sat.read (sansBang l)).2)

theorem cutBang_any (s : ByteArray) (w : World) (hs : s.size ≤ 9223372036854775807) :
    Calls Tryd.prog 24 #[.string s, .string ⟨#[33]⟩] w fun e w' => (∃ D : ByteArray, D.data.toList = sansBang s.data.toList ∧ e = .returned (.tuple #[.string D, .bool (bang s.data.toList)])) ∧ w' = w := by
  refine (Tryd.strings_CutSuffix s ⟨#[33]⟩ w hs).mono ?_
  rintro e w' ⟨rfl, rfl⟩
  exact ⟨⟨_, by simp [sansBang], rfl⟩, rfl⟩
theorem sansBang_len (l : List UInt8) : (sansBang l).length ≤ l.length := by
  unfold sansBang Lib.trimSuffix
  split <;> simp

set_option maxHeartbeats 400000 in
theorem parse_any (B : Nat) (s : ByteArray) (w : World) (hE : Env B w) (hs : s.size ≤ 281474976710656) :
    Calls Tryd.prog 14 #[.string s] w fun e w' => e = .returned (.tuple #[.agg #[.int .i64 (parseL s.data.toList).1, .bool (parseL s.data.toList).2.1], .int .i64 (parseL s.data.toList).2.2]) ∧ Below w.heap.size w w' := by
  have HF : Hid (parseL s.data.toList = if (Sat.read (sansBang s.data.toList)).2 = 0 then ((Sat.read (sansBang s.data.toList)).1, bang s.data.toList, 0) else (0, false, (Sat.read (sansBang s.data.toList)).2)) := rfl
  generalize parseL s.data.toList = R at *
  have hl := sansBang_len s.data.toList
  rw [← size_list] at hl
  go_enter Tryd.func14, Tryd.ntmps14
  go_wp2_with (go_at_call 24; refine (cutBang_any s _ (by omega)).mono ?_; rintro e w' ⟨⟨D, hD, rfl⟩, rfl⟩; rw [← hD] at hl HF; rw [← size_list] at hl; clear hD; generalize bang s.data.toList = m at *; refine Hid.out ?_)
  refine Lib.hid ?_
  go_wp2_with fail
  refine (read_any B D _ (hE.alloc _) (by omega)).mono ?_
  rintro e w1 ⟨rfl, hb⟩
  obtain ⟨hc, hf⟩ := bcell hb
  have hz : w.heap.size < w1.heap.size := by have := hb.size; simp at this; omega
  generalize Sat.read D.data.toList = r at *
  obtain ⟨rn, re⟩ := r
  by_cases h0 : re = 0
  · subst h0
    have hR : R = (rn, m, 0) := by rw [HF.out]; simp
    subst hR
    clear HF
    go_wp2
    exact bodyPost_ret (v := .tuple #[.agg #[.int .i64 rn, .bool m], .int .i64 0]) (by simp [results, Tryd.results14, go_sem, hc]) rfl ⟨rfl, ((((Below.refl _ _).alloc (Nat.le_refl _) _).trans (hb.mono (by simp))).setCell (by simp) _).setCell (by simp) _⟩
  · have hR : R = (0, false, re) := by rw [HF.out]; simp [h0]
    have hne : (re != 0) = true := by simpa using h0
    subst hR
    clear HF h0
    go_wp2
    exact bodyPost_ret (v := .tuple #[.agg #[.int .i64 0, .bool false], .int .i64 re]) (by simp [results, Tryd.results14, go_sem, hc]) rfl ⟨rfl, ((((Below.refl _ _).alloc (Nat.le_refl _) _).trans (hb.mono (by simp))).setCell (by simp) _).setCell (by simp) _⟩
end Go.Proofs.YtmmpcaboedjjdaaDoor
