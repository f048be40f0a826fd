/- Walks: the program's Parse. -/
import Derived.Test.YtfjbbaejeckonaaDoorT7
namespace Go.Proofs.YtfjbbaejeckonaaDoor
open Go Go.RowKit Go.Sort Tg

theorem parts_small (c : UInt8) : ∀ (l : List UInt8) (p : List UInt8), p ∈ Word.parts c l → p.length ≤ l.length
  | [], p, h => by
    rw [Word.parts] at h
    simp at h
    subst h
    exact Nat.le_refl _
  | b :: l, p, h => by
    have ih := parts_small c l
    by_cases hb : b = c
    · subst hb
      rw [Word.parts_hit] at h
      rcases List.mem_cons.1 h with rfl | h
      · simp
      · have := ih p h
        simp
        omega
    · rw [Word.parts_miss _ _ _ hb] at h
      cases hp : Word.parts c l with
      | nil => exact absurd hp (Word.parts_ne c l)
      | cons q r =>
        rw [hp] at h ih
        rw [Word.onto] at h
        rcases List.mem_cons.1 h with rfl | h
        · have := ih q (by simp)
          simp
          omega
        · have := ih p (by simp [h])
          simp
          omega
theorem parts_many (c : UInt8) : ∀ l : List UInt8, (Word.parts c l).length ≤ l.length + 1
  | [] => by rw [Word.parts]; simp
  | b :: l => by
    have ih := parts_many c l
    by_cases hb : b = c
    · subst hb
      rw [Word.parts_hit]
      simp
      omega
    · rw [Word.parts_miss _ _ _ hb]
      cases hp : Word.parts c l with
      | nil => exact absurd hp (Word.parts_ne c l)
      | cons q r =>
        rw [hp] at ih
        rw [Word.onto]
        simp at ih ⊢
        omega
theorem cut_none {p : List UInt8} (h : cutT p = none) : Lib.cut p [61] = (p, [], false) := by
  have h2 : cutL p = none := by
    unfold cutT at h
    cases hc : cutL p with
    | none => rfl
    | some q => rw [hc] at h; cases h
  rw [cut_eq, h2]
theorem cut_some {p : List UInt8} {t : Tag} (h : cutT p = some t) : (⟨(Lib.cut p [61]).1.toArray⟩ : ByteArray) = t.1 ∧ (⟨(Lib.cut p [61]).2.1.toArray⟩ : ByteArray) = t.2 ∧ (Lib.cut p [61]).2.2 = true := by
  unfold cutT at h
  cases hc : cutL p with
  | none => rw [hc] at h; cases h
  | some q =>
    rw [hc] at h
    have h' : ((⟨q.1.toArray⟩, ⟨q.2.toArray⟩) : Tag) = t := Option.some.inj h
    rw [cut_eq, hc]
    subst h'
    exact ⟨rfl, rfl, rfl⟩
theorem cutT_small {p : List UInt8} {t : Tag} (h : cutT p = some t) : t.1.size ≤ p.length ∧ t.2.size ≤ p.length := by
  unfold cutT at h
  cases hc : cutL p with
  | none => rw [hc] at h; cases h
  | some q =>
    rw [hc] at h
    have h' : ((⟨q.1.toArray⟩, ⟨q.2.toArray⟩) : Tag) = t := Option.some.inj h
    have hl := cut_len p q hc
    subst h'
    constructor
    · show q.1.toArray.size ≤ _
      simp
      omega
    · show q.2.toArray.size ≤ _
      simp
      omega
/-- The tags of the first k parts. -/
def cutk (P : List (List UInt8)) (k : Nat) : List Tag := (P.take k).filterMap cutT
theorem cutk_next {P : List (List UInt8)} {k : Nat} (hk : k < P.length) {t : Tag} (h : cutT P[k] = some t) : cutk P (k + 1) = cutk P k ++ [t] := by
  unfold cutk
  rw [List.take_succ_eq_append_getElem hk, List.filterMap_append]
  congr 1
  simp [h]
theorem cutk_len (P : List (List UInt8)) (k : Nat) : (cutk P k).length ≤ P.length := by
  have h1 : (cutk P k).length ≤ (P.take k).length := List.length_filterMap_le _ _
  have h2 : (P.take k).length ≤ P.length := List.length_take_le' _ _
  omega
theorem cutk_small {P : List (List UInt8)} {k B : Nat} (hB : ∀ p ∈ P, p.length ≤ B) : ∀ x ∈ cutk P k, x.1.size ≤ B ∧ x.2.size ≤ B := by
  intro x hx
  obtain ⟨p, hp, he⟩ := List.mem_filterMap.1 hx
  have h1 := hB p (List.mem_of_mem_take hp)
  have h2 := cutT_small he
  omega
def cutAll (P : List (List UInt8)) (k : Nat) : Bool := (P.take k).all fun p => (cutT p).isSome
theorem cutAll_next {P : List (List UInt8)} {k : Nat} (hk : k < P.length) {t : Tag} (h : cutT P[k] = some t) (ha : cutAll P k = true) : cutAll P (k + 1) = true := by
  unfold cutAll at ha ⊢
  rw [List.take_succ_eq_append_getElem hk, List.all_append, ha]
  simp [h]
theorem cuts_not {P : List (List UInt8)} {k : Nat} (hk : k < P.length) (h : cutT P[k] = none) : cuts P = none := by
  unfold cuts
  rw [if_neg]
  intro ha
  have := List.all_eq_true.1 ha _ (List.getElem_mem hk)
  rw [h] at this
  cases this
theorem cuts_all {P : List (List UInt8)} {k : Nat} (hk : ¬ k < P.length) (ha : cutAll P k = true) : cuts P = some (cutk P k) := by
  unfold cutAll at ha
  unfold cuts cutk
  rw [List.take_of_length_le (by omega)] at ha ⊢
  rw [ha, if_pos rfl]
theorem parts_get {s : ByteArray} {k : Nat} (hk : k < (partsB 44 s).length) (hk2 : k < (Word.parts 44 s.data.toList).length) : (partsB 44 s)[k] = ba (Word.parts 44 s.data.toList)[k] := by
  have h : (partsB 44 s)[k]? = some (ba (Word.parts 44 s.data.toList)[k]) := by
    unfold partsB
    rw [List.getElem?_map, List.getElem?_eq_getElem hk2]
    rfl
  rw [List.getElem?_eq_getElem hk] at h
  exact Option.some.inj h
theorem partsB_len (c : UInt8) (s : ByteArray) : (partsB c s).length = (Word.parts c s.data.toList).length := by unfold partsB; simp
theorem new1B (w : World) (t : Tag) : ∀ j u, [Value.string t.1, Value.string t.2][j]? = some u → (w.alloc (.cells #[.string t.1, .string t.2] 40)).cell? ((⟨w.heap.size, 0, none⟩ : Addr).add j) = some u := new1T w t

set_option maxRecDepth 100000 in
set_option maxHeartbeats 1000000 in
theorem parse_any (s : ByteArray) (w : World) (hE : Env w) (hs : s.size ≤ 900) :
    Calls Tryd.prog 32 #[.string s] w fun e w' => (∃ v', e = .returned (.tuple #[v', .int .i64 (parse s.data.toList).2]) ∧ TRow w' v' (parse s.data.toList).1) ∧ Below w.heap.size w w' := by
  obtain ⟨C, HC⟩ : ∃ C, Hid (parse s.data.toList = C) := ⟨_, rfl⟩
  rw [HC.out]
  by_cases he : s.data.toList = []
  · have hq : (s.toList == ([] : List UInt8)) = true := by rw [ByteArray.toList_eq, he]; rfl
    have hq2 : s.toList.isEmpty = true := by rw [ByteArray.toList_eq, he]; rfl
    have hq3 : s.toList = [] := by rw [ByteArray.toList_eq, he]
    have HD : Hid (C = ([], 0)) := by
      show C = _
      rw [← HC.out]
      unfold parse
      rw [if_pos he]
    clear HC he
    go_enter Tryd.func32, Tryd.ntmps32
    go_wp2_with fail
    go_ret2
    rw [HD.out]
    exact ⟨⟨_, rfl, TRow.nil _⟩, Below.refl _ _⟩
  · have hq2 : s.toList.isEmpty = false := by
      rw [ByteArray.toList_eq]
      cases hx : s.data.toList with
      | nil => exact absurd hx he
      | cons a r => rfl
    have hq : (s.toList == ([] : List UInt8)) = false := by
      rw [ByteArray.toList_eq]
      cases hx : s.data.toList with
      | nil => exact absurd hx he
      | cons a r => rfl
    have HD : Hid (C = match cuts (Word.parts 44 s.data.toList) with | none => ([], 2) | some l => canon l) := by
      show C = _
      rw [← HC.out]
      unfold parse
      rw [if_neg he]
      rfl
    clear HC he
    obtain ⟨i0, hi, hz0, hz1, hz2⟩ := info41
    have HI := Lib.hid (And.intro hi (And.intro hz0 (And.intro hz1 hz2)))
    clear hi hz0 hz1 hz2
    have HSp := Lib.hid (split_any s 44 w hE (by omega))
    have hL := splitW_lies 44 s w
    have d1 := splitW_below 44 s w
    have hz := splitW_size 44 s w
    have hE1 := hE.go d1
    have HPs : Hid (∀ p ∈ Word.parts 44 s.data.toList, p.length ≤ 900) := fun p hp => by
      have := parts_small 44 _ p hp
      rw [← size_list] at this
      omega
    have hPm := parts_many 44 s.data.toList
    rw [← size_list] at hPm
    have HG : Hid (∀ k (h1 : k < (partsB 44 s).length) (h2 : k < (Word.parts 44 s.data.toList).length), (partsB 44 s)[k] = ba (Word.parts 44 s.data.toList)[k]) := fun k h1 h2 => parts_get h1 h2
    have HPl := Lib.hid (partsB_len 44 s)
    generalize splitW 44 s w = w1 at *
    generalize Word.parts 44 s.data.toList = P at *
    generalize partsB 44 s = Q at *
    have HL := Lib.hid hL
    clear hL hE
    go_enter Tryd.func32, Tryd.ntmps32
    go_wp2_with (first | (go_at_call 51; refine (HSp.out).mono ?_; rintro e w' ⟨rfl, hw⟩; have hw := hw.symm; subst hw))
    go_loopw [4, 15] (fun out i wr => ∃ (k : Nat), k ≤ Q.length ∧ i = .int .i64 k ∧ Hid (cutAll P k = true) ∧ Hid (OwnT wr w1.heap.size out (cutk P k)) ∧ Below w1.heap.size w1 wr) (fun _ i _ => Q.length - (intOf i).toNat)
    case atStart => exact ⟨0, Nat.zero_le _, rfl, rfl, ownT_nil _ _, Below.refl _ _⟩
    case round =>
      obtain ⟨k, hk, rfl, HT, HO, hbl⟩ := hrel
      have hql : Q.length ≤ 901 := by rw [HPl.out]; omega
      by_cases hlt : k < Q.length
      · have hlp : k < P.length := by rw [← HPl.out]; exact hlt
        have e1 := ((HL.out.on (by omega) hbl).at k hlt)
        rw [HG.out k hlt hlp, Nat.zero_add] at e1
        have i1 : (k : Int) < (Q.length : Int) := by omega
        have i2 : (0 : Int) ≤ (k : Int) := by omega
        have hbz := hbl.size
        obtain ⟨m, hm⟩ := hE1.go hbl
        have hsz : (ba P[k]).size < 4294967281 := by
          have := HPs.out _ (List.getElem_mem hlp)
          rw [size_list, ba_list]
          omega
        have HCt := Lib.hid (Tryd.strings_Cut (ba P[k]) ⟨#[61]⟩ m wr hsz hm)
        rw [ba_list] at HCt
        have hkl := cutk_len P k
        rw [← HPl.out] at hkl
        cases hc : cutT P[k] with
        | none =>
          have HCe := Lib.hid (cut_none hc)
          have HCt := Lib.hid HCt.out
          rw [show (⟨#[61]⟩ : ByteArray).data.toList = [61] from rfl, HCe.out] at HCt
          have HX : Hid (C = ([], 2)) := by
            show C = _
            rw [HD.out, cuts_not hlp hc]
          generalize P[k] = p at *
          clear hc HD HT HO HL HG HPs hm HCe
          go_wp2_with (first | (go_at_call 30; refine (HCt.out).mono ?_; rintro e w2 ⟨rfl, q, rfl⟩))
          go_ret2
          rw [HX.out]
          exact ⟨⟨_, rfl, TRow.nil _⟩, d1.trans ((below_drewN hbl q).mono d1.size)⟩
        | some t =>
          obtain ⟨c1, c2, c3⟩ := cut_some hc
          have HCt := Lib.hid HCt.out
          rw [show (⟨#[61]⟩ : ByteArray).data.toList = [61] from rfl, c1, c2, c3] at HCt
          have HT2 := Lib.hid (cutAll_next hlp hc HT.out)
          have HK := Lib.hid (cutk_next hlp hc)
          generalize P[k] = p at *
          clear hc HT HL HG HPs hm c1 c2 c3
          go_wp2_with (first
            | (go_at_call 30; refine (HCt.out).mono ?_; rintro e w2 ⟨rfl, q, rfl⟩)
            | (at_builtin; refine wpList_append_own _ rfl _ _ 22 rfl w1.heap.size 40 i0 (.agg #[.string ⟨#[]⟩, .string ⟨#[]⟩]) 2 32 Tryd.underlying22 HI.out.1 HI.out.2.1 HI.out.2.2.1 HI.out.2.2.2 rfl (by decide) _ _ _ rfl (World.ownsRow.alloc (w := wr.drewN _) HO.out _) ⟨wr.heap.size, 0, none⟩ 1 1 [Value.string t.1, Value.string t.2] rfl rfl (new1T (wr.drewN _) t) (one1T t) (by unfold maxLen; omega) (by omega) (by simp; omega) ?_; intro v' w2 hown hgrow hnil))
          have HO2 := Lib.hid (ownT_next hown)
          have hb2 := ownT_below (below_drewN hbl _) hbz HO.out hgrow
          exact ⟨⟨k + 1, by omega, by go_num, HT2, by rw [HK.out]; exact HO2, hb2⟩, by simp [intOf]; omega⟩
      · have HX : Hid (C = canon (cutk P k)) := by
          show C = _
          rw [HD.out, cuts_all (by rw [← HPl.out]; exact hlt) HT.out]
        have hr := ownT_row HO.out
        have HSm : Hid (∀ x ∈ cutk P k, x.1.size ≤ 281474976710656 ∧ x.2.size ≤ 281474976710656) := fun x hx => by
          have := cutk_small HPs.out x hx
          omega
        have hkl := cutk_len P k
        rw [← HPl.out] at hkl
        generalize cutk P k = L at *
        clear HD HT HO HL HG HPs HI
        go_wp2_with (first | (go_at_call 22; refine (canon_any _ L _ hr (by omega) HSm.out).mono ?_; rintro e w3 ⟨⟨v3, rfl, hr3⟩, n3⟩))
        go_ret2
        rw [HX.out]
        exact ⟨⟨_, rfl, hr3⟩, d1.trans ((hbl.trans (n3.mono hbl.size)).mono d1.size)⟩
end Go.Proofs.YtfjbbaejeckonaaDoor
