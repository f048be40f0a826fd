/- Walks: the document's Read at every text, and its Parse. -/
import Derived.Test.YtmmpcaboedjjdaaDoorW8
import Derived.Test.YtmmpcaboedjjdaaDoorW4
namespace Go.Proofs.YtmmpcaboedjjdaaDoor
open Go Go.RowKit

theorem refRead_any (s : ByteArray) (w : World) (hs : s.size ≤ 281474976710656) :
    Calls Tryd.prog 17 #[.string s] w fun e w' => e = .returned (.tuple #[.int .i64 (Sat.read s.data.toList).1, .int .i64 (Sat.read s.data.toList).2]) ∧ w' = w := by
  by_cases h1 : 1 < s.size
  · by_cases h45 : (((s[0]'(by omega)).toNat : Int) == 45) = true
    · exact refRead_minus s w hs h1 h45
    · exact refRead_plain s w hs (fun _ => by simpa using h45)
  · exact refRead_plain s w hs (fun h => absurd h h1)

theorem last_list (s : ByteArray) (h : 0 < s.size) : s.data.toList = s.data.toList.take (s.size - 1) ++ [s[s.size - 1]] := by
  have := take_snoc s (s.size - 1) (by omega)
  rw [show s.size - 1 + 1 = s.size from by omega, List.take_of_length_le (by rw [← size_list]; exact Nat.le_refl _)] at this
  exact this

theorem bang_last (s : ByteArray) (h : 0 < s.size) : bang s.data.toList = (((s[s.size - 1]).toNat : Int) == 33) := by
  have e := last_list s h
  rw [e, bang_snoc, Bool.eq_iff_iff]
  simp
  constructor
  · intro h; rw [h]; rfl
  · intro h; apply UInt8.toNat_inj.1; have h4 : (33 : UInt8).toNat = 33 := rfl; omega

set_option maxHeartbeats 1000000 in
theorem refParse_any (s : ByteArray) (w : World) (hs : s.size ≤ 281474976710656) :
    Calls Tryd.prog 15 #[.string s] w fun e w' => e = .returned (.tuple #[.agg #[.int .i64 (parseL s.data.toList).1, .bool (parseL s.data.toList).2.1], .int .i64 (parseL s.data.toList).2.2]) ∧ Below w.heap.size w w' := by
  have HF : Hid (parseL s.data.toList = if (Sat.read (sansBang s.data.toList)).2 = 0 then ((Sat.read (sansBang s.data.toList)).1, bang s.data.toList, 0) else (0, false, (Sat.read (sansBang s.data.toList)).2)) := rfl
  generalize parseL s.data.toList = R at *
  by_cases hp : 0 < s.size
  · have hb := bang_last s hp
    by_cases h33 : (((s[s.size - 1]).toNat : Int) == 33) = true
    · obtain ⟨D, hD⟩ : ∃ D, s.extract 0 (s.size - 1) = D := ⟨_, rfl⟩
      have hsb : sansBang s.data.toList = D.data.toList := by
        rw [← hD, Lib.extract_data]
        rw [h33] at hb
        obtain ⟨r, e1, e2⟩ := bang_split hb
        rw [e2, e1]
        have : s.size = r.length + 1 := by rw [size_list, e1]; simp
        rw [this]
        simp
      have hds : D.size ≤ s.size := by have a := sansBang_len s.data.toList; rw [hsb, ← size_list, ← size_list] at a; exact a
      rw [hsb, hb, h33] at HF
      clear hsb hb
      go_enter Tryd.func15, Tryd.ntmps15
      go_wp2_with fail
      refine (refRead_any D _ (by omega)).mono ?_
      rintro e w1 ⟨rfl, rfl⟩
      generalize Sat.read D.data.toList = r at *
      obtain ⟨rn, re⟩ := r
      by_cases h0 : re = 0
      · subst h0
        have hR : R = (rn, true, 0) := by rw [HF.out]; simp
        subst hR
        clear HF
        go_wp2
        exact bodyPost_ret (v := .tuple #[.agg #[.int .i64 rn, .bool true], .int .i64 0]) (by simp [results, Tryd.results15, go_sem]) rfl ⟨rfl, (Below.refl _ _).alloc (Nat.le_refl _) _⟩
      · have hR : R = (0, false, re) := by rw [HF.out]; simp [h0]
        have hne : (re != 0) = true := by simpa using h0
        subst hR
        clear HF h0
        go_wp2
        exact bodyPost_ret (v := .tuple #[.agg #[.int .i64 0, .bool false], .int .i64 re]) (by simp [results, Tryd.results15, go_sem]) rfl ⟨rfl, (Below.refl _ _).alloc (Nat.le_refl _) _⟩
    · have h33' : (((s[s.size - 1]).toNat : Int) == 33) = false := by simpa using h33
      rw [h33'] at hb
      rw [sans_no hb, hb] at HF
      clear h33 hb
      go_enter Tryd.func15, Tryd.ntmps15
      go_wp2_with fail
      refine (refRead_any s _ (by omega)).mono ?_
      rintro e w1 ⟨rfl, rfl⟩
      generalize Sat.read s.data.toList = r at *
      obtain ⟨rn, re⟩ := r
      by_cases h0 : re = 0
      · subst h0
        have hR : R = (rn, false, 0) := by rw [HF.out]; simp
        subst hR
        clear HF
        go_wp2
        exact bodyPost_ret (v := .tuple #[.agg #[.int .i64 rn, .bool false], .int .i64 0]) (by simp [results, Tryd.results15, go_sem]) rfl ⟨rfl, (Below.refl _ _).alloc (Nat.le_refl _) _⟩
      · have hR : R = (0, false, re) := by rw [HF.out]; simp [h0]
        have hne : (re != 0) = true := by simpa using h0
        subst hR
        clear HF h0
        go_wp2
        exact bodyPost_ret (v := .tuple #[.agg #[.int .i64 0, .bool false], .int .i64 re]) (by simp [results, Tryd.results15, go_sem]) rfl ⟨rfl, (Below.refl _ _).alloc (Nat.le_refl _) _⟩
  · have hz : s.size = 0 := by omega
    have hl : s.data.toList = [] := List.length_eq_zero_iff.1 (by rw [← size_list]; exact hz)
    have hb : bang s.data.toList = false := by rw [hl]; exact bang_nil
    rw [sans_no hb, hb] at HF
    clear hl hb hp
    go_enter Tryd.func15, Tryd.ntmps15
    go_wp2_with fail
    refine (refRead_any s _ (by omega)).mono ?_
    rintro e w1 ⟨rfl, rfl⟩
    generalize Sat.read s.data.toList = r at *
    obtain ⟨rn, re⟩ := r
    by_cases h0 : re = 0
    · subst h0
      have hR : R = (rn, false, 0) := by rw [HF.out]; simp
      subst hR
      clear HF
      go_wp2
      exact bodyPost_ret (v := .tuple #[.agg #[.int .i64 rn, .bool false], .int .i64 0]) (by simp [results, Tryd.results15, go_sem]) rfl ⟨rfl, (Below.refl _ _).alloc (Nat.le_refl _) _⟩
    · have hR : R = (0, false, re) := by rw [HF.out]; simp [h0]
      have hne : (re != 0) = true := by simpa using h0
      subst hR
      clear HF h0
      go_wp2
      exact bodyPost_ret (v := .tuple #[.agg #[.int .i64 0, .bool false], .int .i64 re]) (by simp [results, Tryd.results15, go_sem]) rfl ⟨rfl, (Below.refl _ _).alloc (Nat.le_refl _) _⟩
end Go.Proofs.YtmmpcaboedjjdaaDoor
