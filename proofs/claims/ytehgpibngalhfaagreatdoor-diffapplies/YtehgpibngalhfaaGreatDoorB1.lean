/- Carried over from earlier layers: walks and lemmas. -/
import Derived.Test.YtehgpibngalhfaaGreatDoorMS
import Derived.Test.YtehgpibngalhfaaGreatDoorShelf
import Derived.WalkKit
import Derived.WalkSpells
import Derived.WalkLawsBesides
import Derived.Outline
import Derived.Lib.AppendIntMem
import Derived.Lib.AtoiErrMem
import Derived.Lib.ItoaLen
namespace Go.Proofs.YtehgpibngalhfaaGreatDoor.St
open Go Go.RowKit
open Sat
theorem below3 {w : World} (o1 o2 o3 : Obj) : Below w.heap.size w (((w.alloc o1).alloc o2).alloc o3) :=
  (((Below.refl _ _).alloc (Nat.le_refl _) _).alloc (by simp) _).alloc (by simp; omega) _
theorem bcell {W w1 : World} (hb : Below W.heap.size W w1) : (∀ b o, b < W.heap.size → w1.cell? ⟨b, o, none⟩ = W.cell? ⟨b, o, none⟩) ∧ (∀ b o, b < W.heap.size → w1.frozen? ⟨b, o, none⟩ = W.frozen? ⟨b, o, none⟩) :=
  ⟨fun b o h => hb.cell (p := ⟨b, o, none⟩) h, fun b o h => hb.frozen (p := ⟨b, o, none⟩) h⟩
end Go.Proofs.YtehgpibngalhfaaGreatDoor.St
namespace Go.Proofs.YtehgpibngalhfaaGreatDoor.St
open Go Go.RowKit
open Sat
/-- What the walks ask of the world, whatever is done from block B on: the table of powers, and that the variable ErrRange holds an error. -/
structure Env (B : Nat) (w : World) : Prop where
  tab : Lib.TabBelow Tryz.prog B w "internal/strconv.uint64pow10" .u64 Lib.pow10Tab
  rng : ∀ w', Below B w w' → ∃ tp p, w'.var? Tryz.prog "strconv.ErrRange" = some #[.iface tp p]
  size : B ≤ w.heap.size
theorem Env.on {B : Nat} {w w1 : World} (h : Env B w) (hb : Below B w w1) : Env B w1 :=
  ⟨h.tab.on hb, fun w' h' => h.rng w' (hb.trans h'), Nat.le_trans h.size hb.size⟩
theorem Env.go {B : Nat} {w w1 : World} (h : Env B w) (hb : Below w.heap.size w w1) : Env B w1 := h.on (hb.mono h.size)
theorem Env.alloc {B : Nat} {w : World} (h : Env B w) (o : Obj) : Env B (w.alloc o) := h.go ((Below.refl _ _).alloc (Nat.le_refl _) _)
theorem below_grown (w : World) (q : Nat) (os : Array Obj) : Below w.heap.size w (Sort.grow (w.drewN q) os) :=
  ⟨rfl, rfl, rfl, by simp [Sort.grow], fun i hi => by
    show ((w.drewN q).heap ++ os)[i]? = _
    rw [Array.getElem?_append_left (by show i < w.heap.size; omega)]
    rfl⟩
set_option maxRecDepth 100000 in
/-- Of a call's result: a string; nothing that was there has turned. -/
theorem number_any (B : Nat) (n : Int) (w : World) (hE : Env B w) (h0 : -9223372036854775808 ≤ n) (h1 : n ≤ 9223372036854775807) :
    Calls Tryz.prog 50 #[.int .i64 n] w fun e w' => e = .returned (.string ⟨(Lib.itoa n).toArray⟩) ∧ Below w.heap.size w w' := by
  have htab := hE.tab.here
  clear hE
  go_enter Tryz.func50, Tryz.ntmps50
  go_wp2_with (go_at_call 66; refine (Tryz.strconv_FormatInt_10 n h0 h1 _ htab).mono ?_; rintro e w' ⟨rfl, k, os, rfl⟩)
  go_ret
  exact ⟨rfl, below_grown _ _ _⟩
theorem ba_append (l r : List UInt8) : (⟨l.toArray⟩ : ByteArray) ++ (⟨r.toArray⟩ : ByteArray) = ⟨(l ++ r).toArray⟩ := by
  apply ByteArray.ext
  rw [ByteArray.data_append]
  simp
theorem ret_str {a b : ByteArray} (h : a = b) : Ending.returned (.string a) = .returned (.string b) := by rw [h]
set_option maxRecDepth 100000 in
set_option maxHeartbeats 400000 in
theorem text_any (B : Nat) (n : Int) (o : Bool) (w : World) (hE : Env B w) (h0 : -9223372036854775808 ≤ n) (h1 : n ≤ 9223372036854775807) :
    Calls Tryz.prog 65 #[.agg #[.int .i64 n, .bool o]] w fun e w' => e = .returned (.string ⟨(textL n o).toArray⟩) ∧ Below w.heap.size w w' := by
  have hl := Lib.itoa_length_le n h0 h1
  cases o
  · have hf : textL n false = Lib.itoa n := by simp [textL]
    rw [hf]
    clear hf
    go_enter Tryz.func65, Tryz.ntmps65
    go_wp2_with fail
    refine (number_any B n _ (hE.alloc _) h0 h1).mono ?_
    rintro e w1 ⟨rfl, hb⟩
    go_wp2
    go_ret
    exact ⟨rfl, ((Below.refl _ _).alloc (Nat.le_refl _) _).trans (hb.mono (by simp))⟩
  · have hf : textL n true = Lib.itoa n ++ [33] := by simp [textL]
    rw [hf]
    clear hf
    go_enter Tryz.func65, Tryz.ntmps65
    go_wp2_with fail
    refine (number_any B n _ (hE.alloc _) h0 h1).mono ?_
    rintro e w1 ⟨rfl, hb⟩
    go_wp2
    go_ret
    exact ⟨ret_str (ba_append _ _), ((Below.refl _ _).alloc (Nat.le_refl _) _).trans (hb.mono (by simp))⟩
theorem take_snoc (s : ByteArray) (k : Nat) (h : k < s.size) : s.data.toList.take (k + 1) = s.data.toList.take k ++ [s[k]] := by
  rw [List.take_succ_eq_append_getElem (by simpa using h)]; rfl
/-- allDigits: digits, at least one. -/
def allD (l : List UInt8) : Bool := Sat.digs l && !l.isEmpty
theorem digs_snoc (l : List UInt8) (c : UInt8) : Sat.digs (l ++ [c]) = (Sat.digs l && (decide (48 ≤ c.toNat) && decide (c.toNat ≤ 57))) := by
  simp [Sat.digs, Sat.dgt]
theorem digs_take {l : List UInt8} {k : Nat} (h : Sat.digs (l.take k) = false) : Sat.digs l = false := by
  cases hd : Sat.digs l with
  | false => rfl
  | true =>
    have : Sat.digs (l.take k) = true := by
      simp only [Sat.digs, List.all_eq_true] at hd ⊢
      exact fun x hx => hd x (List.mem_of_mem_take hx)
    rw [this] at h
    cases h
theorem ret_bool {a b : Bool} (h : a = b) : Ending.returned (.bool a) = .returned (.bool b) := by rw [h]
set_option maxRecDepth 100000 in
set_option maxHeartbeats 400000 in
theorem allDigits_any (s : ByteArray) (w : World) (hs : s.size ≤ 9223372036854775807) :
    Calls Tryz.prog 127 #[.string s] w fun e w' => e = .returned (.bool (allD s.data.toList)) ∧ w' = w := by
  go_enter Tryz.func127, Tryz.ntmps127
  go_wp2
  go_loop [3, 6] (fun _ i => ∃ k : Nat, k ≤ s.size ∧ i = .int .i64 k ∧ Hid (Sat.digs (s.data.toList.take k) = true)) (fun _ i => s.size - (intOf i).toNat)
  case atStart => exact ⟨0, Nat.zero_le _, rfl, rfl⟩
  case round =>
    obtain ⟨k, hk, rfl, HD⟩ := hrel
    by_cases hlt : k < s.size
    · have hts := take_snoc s k hlt
      have HS : Hid (Sat.digs (s.data.toList.take (k + 1)) = (Sat.digs (s.data.toList.take k) && (decide (48 ≤ (s[k]).toNat) && decide ((s[k]).toNat ≤ 57)))) := by rw [hts]; exact digs_snoc _ _
      clear hts
      have HN : Hid ((((s[k]).toNat : Int) < 48 ∨ 57 < ((s[k]).toNat : Int)) → allD s.data.toList = false) := by
        intro h
        have h1 := HS.out
        rw [HD.out] at h1
        have h2 : Sat.digs (s.data.toList.take (k + 1)) = false := by rw [h1]; simp; omega
        simp [allD, digs_take h2]
      go_wp2
      case roundEnd =>
        have h2 : 48 ≤ ((s[k]).toNat : Int) ∧ ((s[k]).toNat : Int) ≤ 57 := by assumption
        refine ⟨⟨k + 1, by omega, by go_num, ?_⟩, by simp [intOf]; omega⟩
        show _ = _
        rw [HS.out, HD.out]
        simp
        omega
      all_goals
        go_ret
        exact ⟨ret_bool (HN.out (by omega)).symm, rfl⟩
    · have hk' : s.data.toList.take k = s.data.toList := List.take_of_length_le (by simp; omega)
      have HA : Hid (allD s.data.toList = !s.data.toList.isEmpty) := by
        have h1 := HD.out
        rw [hk'] at h1
        show _ = _
        rw [allD, h1, Bool.true_and]
      clear hk'
      go_wp2
      go_ret
      exact ⟨ret_bool (by rw [ByteArray.toList_eq]; exact (HA.out).symm), rfl⟩
end Go.Proofs.YtehgpibngalhfaaGreatDoor.St
namespace Go.Proofs.YtehgpibngalhfaaGreatDoor.St
open Go Go.RowKit
open Sat
theorem cut_eq (l : List UInt8) : Sat.cut l = (Lib.trimPrefix l [45], Lib.hasPrefix l [45]) := by
  cases l with
  | nil => simp [Sat.cut, Lib.trimPrefix, Lib.hasPrefix]
  | cons c r =>
    by_cases h : c = 45
    · subst h; simp [Sat.cut, Lib.trimPrefix, Lib.hasPrefix]
    · have h' : ((45 : UInt8) == c) = false := by simp; exact fun e => h e.symm
      simp [Sat.cut, Lib.trimPrefix, Lib.hasPrefix, h, h', List.isPrefixOf]
theorem cutMinus_any (s : ByteArray) (w : World) :
    Calls Tryz.prog 57 #[.string s, .string ⟨#[45]⟩] w fun e w' => (∃ D : ByteArray, D.data.toList = (Sat.cut s.data.toList).1 ∧ e = .returned (.tuple #[.string D, .bool (Sat.cut s.data.toList).2])) ∧ w' = w := by
  refine (Tryz.strings_CutPrefix s ⟨#[45]⟩ w).mono ?_
  rintro e w' ⟨rfl, rfl⟩
  rw [cut_eq]
  exact ⟨⟨_, by simp, rfl⟩, rfl⟩
theorem cut_len (l : List UInt8) : (Sat.cut l).1.length ≤ l.length := by
  unfold Sat.cut
  split
  · simp
  · split <;> simp
theorem size_list (D : ByteArray) : D.size = D.data.toList.length := by rw [Array.length_toList]; rfl
theorem list_head (l : List UInt8) (h : 0 < l.length) : l = l[0] :: l.tail := by
  cases l with
  | nil => cases h
  | cons c r => rfl
theorem head_list (D : ByteArray) (h : 0 < D.size) : D.data.toList = D[0] :: D.data.toList.tail :=
  list_head D.data.toList (by rw [← size_list]; exact h)
theorem form_no (d : List UInt8) (m : Bool) (h : (!allD d) = true) : Sat.formD d m = false := by
  cases d with
  | nil => rfl
  | cons c r =>
    simp [allD] at h
    simp [Sat.formD, h]
theorem allD_pos (D : ByteArray) (h : (!allD D.data.toList) = false) : 0 < D.size ∧ Sat.digs D.data.toList = true := by
  simp [allD] at h
  refine ⟨?_, h.1⟩
  rw [size_list]
  rcases Nat.eq_zero_or_pos D.data.toList.length with e | e
  · exact absurd (Array.ext' (show D.data.toList = (#[] : Array UInt8).toList from List.length_eq_zero_iff.1 e)) h.2
  · exact e
theorem form_zero (D : ByteArray) (m : Bool) (h : (!allD D.data.toList) = false) (hp : 0 < D.size) (h0 : (((D[0]).toNat : Int) == 48) = true) : Sat.formD D.data.toList m = (decide ((D.size : Int) = 1) && !m) := by
  have hd := (allD_pos D h).2
  have hs := size_list D
  have hh := head_list D hp
  have h48 : D[0] = 48 := by apply UInt8.toNat_inj.1; simp at h0; have h4 : (48 : UInt8).toNat = 48 := rfl; omega
  rw [hh] at hd hs ⊢
  rw [Sat.formD, hd, h48, if_pos rfl, Bool.true_and, hs]
  congr 1
  cases D.data.toList.tail with
  | nil => simp
  | cons a b => simp; omega
theorem form_other (D : ByteArray) (m : Bool) (h : (!allD D.data.toList) = false) (hp : 0 < D.size) (h0 : (((D[0]).toNat : Int) == 48) = false) : Sat.formD D.data.toList m = true := by
  have hd := (allD_pos D h).2
  have hh := head_list D hp
  have h48 : D[0] ≠ 48 := by intro e; rw [e] at h0; simp at h0
  rw [hh] at hd ⊢
  rw [Sat.formD, hd, if_neg h48, Bool.true_and]
set_option maxRecDepth 100000 in
set_option maxHeartbeats 400000 in
theorem formed_any (s : ByteArray) (w : World) (hs : s.size ≤ 9223372036854775807) :
    Calls Tryz.prog 111 #[.string s] w fun e w' => e = .returned (.bool (Sat.form s.data.toList)) ∧ w' = w := by
  have HF : Hid (Sat.form s.data.toList = Sat.formD (Sat.cut s.data.toList).1 (Sat.cut s.data.toList).2) := rfl
  have hl := cut_len s.data.toList
  rw [← size_list] at hl
  go_enter Tryz.func111, Tryz.ntmps111
  go_wp2_with (go_at_call 57; refine (cutMinus_any s _).mono ?_; rintro e w' ⟨⟨D, hD, rfl⟩, rfl⟩; rw [← hD] at hl HF; rw [← size_list] at hl; clear hD; generalize (Sat.cut s.data.toList).2 = m at *; refine Hid.out ?_)
  refine Lib.hid ?_
  by_cases ha : (!allD D.data.toList) = true
  · have HN : Hid (Sat.form s.data.toList = false) := by show _ = _; rw [HF.out]; exact form_no _ _ ha
    go_wp2_with (go_at_call 127; refine (allDigits_any D _ (by omega)).mono ?_; rintro e w' ⟨rfl, rfl⟩)
    go_ret
    exact ⟨ret_bool HN.out.symm, rfl⟩
  · have ha' : (!allD D.data.toList) = false := by simpa using ha
    clear ha
    have hp := (allD_pos D ha').1
    have HZ := Lib.hid (form_zero D m ha' hp)
    have HO := Lib.hid (form_other D m ha' hp)
    go_wp2_with (go_at_call 127; refine (allDigits_any D _ (by omega)).mono ?_; rintro e w' ⟨rfl, rfl⟩)
    · go_ret
      refine ⟨ret_bool ?_, rfl⟩
      rw [HF.out, HZ.out (by assumption)]
      have : (D.size : Int) = 1 := by assumption
      simp [this]
    · go_ret
      refine ⟨ret_bool ?_, rfl⟩
      rw [HF.out, HZ.out (by assumption)]
      have : ¬ (D.size : Int) = 1 := by assumption
      simp [this]
    · go_ret
      refine ⟨ret_bool ?_, rfl⟩
      rw [HF.out, HO.out (by assumption)]
set_option maxRecDepth 100000 in
set_option maxHeartbeats 400000 in
theorem read_any (B : Nat) (s : ByteArray) (w : World) (hE : Env B w) (hs : s.size ≤ 281474976710656) :
    Calls Tryz.prog 92 #[.string s] w fun e w' => e = .returned (.tuple #[.int .i64 (Sat.read s.data.toList).1, .int .i64 (Sat.read s.data.toList).2]) ∧ Below w.heap.size w w' := by
  cases hf : Sat.form s.data.toList with
  | false =>
    rw [Sat.read_noform hf]
    go_enter Tryz.func92, Tryz.ntmps92
    go_wp2_with (go_at_call 111; refine (formed_any s _ (by omega)).mono ?_; rintro e w' ⟨rfl, rfl⟩)
    go_ret2
    exact ⟨rfl, Below.refl _ _⟩
  | true =>
    rcases Sat.parse_form _ hf with ⟨hp, hr⟩ | ⟨hp, hr⟩
    · rw [hr]
      have HP := Lib.hid hp
      clear hr hp
      generalize (Sat.read s.data.toList).1 = v at *
      go_enter Tryz.func92, Tryz.ntmps92
      go_wp2_with (first | (go_at_call 111; refine (formed_any s _ (by omega)).mono ?_; rintro e w' ⟨rfl, rfl⟩) | (go_at_call 112; refine (Tryz.strconv_ParseInt_10_at64_ok s (by omega) v HP.out _).mono ?_; rintro e w1 ⟨rfl, hw⟩))
      go_ret2
      refine ⟨rfl, ?_⟩
      rcases hw with rfl | ⟨t, rfl⟩
      · exact Below.refl _ _
      · exact Lib.bytesWorld_below _ _ _
    · rw [hr]
      have HP := Lib.hid hp
      clear hr hp
      obtain ⟨tp, q, hv⟩ := hE.rng w (Below.refl _ _)
      have HV := Lib.hid hv
      clear hv
      go_enter Tryz.func92, Tryz.ntmps92
      go_wp2_with (first | (go_at_call 111; refine (formed_any s _ (by omega)).mono ?_; rintro e w' ⟨rfl, rfl⟩) | (go_at_call 112; refine (Tryz.strconv_ParseInt_10_at64_range_var s (by omega) HP.out tp q _ HV.out).mono ?_; rintro e w1 ⟨N, rfl, _, _, hw⟩))
      go_ret2
      exact ⟨rfl, hw⟩
theorem cutBang_any (s : ByteArray) (w : World) (hs : s.size ≤ 9223372036854775807) :
    Calls Tryz.prog 113 #[.string s, .string ⟨#[33]⟩] w fun e w' => (∃ D : ByteArray, D.data.toList = sansBang s.data.toList ∧ e = .returned (.tuple #[.string D, .bool (bang s.data.toList)])) ∧ w' = w := by
  refine (Tryz.strings_CutSuffix s ⟨#[33]⟩ w hs).mono ?_
  rintro e w' ⟨rfl, rfl⟩
  exact ⟨⟨_, by simp [sansBang], rfl⟩, rfl⟩
theorem sansBang_len (l : List UInt8) : (sansBang l).length ≤ l.length := by
  unfold sansBang Lib.trimSuffix
  split <;> simp
set_option maxRecDepth 100000 in
set_option maxHeartbeats 400000 in
theorem parse_any (B : Nat) (s : ByteArray) (w : World) (hE : Env B w) (hs : s.size ≤ 281474976710656) :
    Calls Tryz.prog 93 #[.string s] w fun e w' => e = .returned (.tuple #[.agg #[.int .i64 (parseL s.data.toList).1, .bool (parseL s.data.toList).2.1], .int .i64 (parseL s.data.toList).2.2]) ∧ Below w.heap.size w w' := by
  have HF : Hid (parseL s.data.toList = if (Sat.read (sansBang s.data.toList)).2 = 0 then ((Sat.read (sansBang s.data.toList)).1, bang s.data.toList, 0) else (0, false, (Sat.read (sansBang s.data.toList)).2)) := rfl
  generalize parseL s.data.toList = R at *
  have hl := sansBang_len s.data.toList
  rw [← size_list] at hl
  go_enter Tryz.func93, Tryz.ntmps93
  go_wp2_with (go_at_call 113; refine (cutBang_any s _ (by omega)).mono ?_; rintro e w' ⟨⟨D, hD, rfl⟩, rfl⟩; rw [← hD] at hl HF; rw [← size_list] at hl; clear hD; generalize bang s.data.toList = m at *; refine Hid.out ?_)
  refine Lib.hid ?_
  go_wp2_with fail
  refine (read_any B D _ (hE.alloc _) (by omega)).mono ?_
  rintro e w1 ⟨rfl, hb⟩
  obtain ⟨hc, hf⟩ := bcell hb
  have hz : w.heap.size < w1.heap.size := by have := hb.size; simp at this; omega
  generalize Sat.read D.data.toList = r at *
  obtain ⟨rn, re⟩ := r
  by_cases h0 : re = 0
  · subst h0
    have hR : R = (rn, m, 0) := by rw [HF.out]; simp
    subst hR
    clear HF
    go_wp2
    exact bodyPost_ret (v := .tuple #[.agg #[.int .i64 rn, .bool m], .int .i64 0]) (by simp [results, Tryz.results93, go_sem, hc]) rfl ⟨rfl, ((((Below.refl _ _).alloc (Nat.le_refl _) _).trans (hb.mono (by simp))).setCell (by simp) _).setCell (by simp) _⟩
  · have hR : R = (0, false, re) := by rw [HF.out]; simp [h0]
    have hne : (re != 0) = true := by simpa using h0
    subst hR
    clear HF h0
    go_wp2
    exact bodyPost_ret (v := .tuple #[.agg #[.int .i64 0, .bool false], .int .i64 re]) (by simp [results, Tryz.results93, go_sem, hc]) rfl ⟨rfl, ((((Below.refl _ _).alloc (Nat.le_refl _) _).trans (hb.mono (by simp))).setCell (by simp) _).setCell (by simp) _⟩
end Go.Proofs.YtehgpibngalhfaaGreatDoor.St
