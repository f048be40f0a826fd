/- Walks: the law WordParts. -/
import Derived.Test.YtiaeopjfggiecaaDoorW7
namespace Go.Proofs.YtiaeopjfggiecaaDoor
open Go Go.RowKit

theorem split_row (s : ByteArray) (c : UInt8) (w : World) (hE : Env w) (hs : s.size < 4294967281) :
    Calls Tryd.prog 14 #[.string s, .int .u8 (c.toNat : Int)] w fun e w' => (∃ v, e = .returned v ∧ Row w' v (partsB c s)) ∧ Below w.heap.size w w' :=
  (split_any s c w hE hs).mono fun e w' ⟨he, hw⟩ => by
    subst hw
    exact ⟨⟨_, he, ⟨_, _, rfl, Nat.le_refl _, fun _ => ⟨_, _, rfl, by rw [splitW_size]; omega, splitW_lies c s w⟩⟩⟩, splitW_below c s w⟩
theorem fields_row (s : ByteArray) (w : World) (hE : Env w) (hs : s.size < 4294967281) :
    Calls Tryd.prog 16 #[.string s] w fun e w' => (∃ v, e = .returned v ∧ Row w' v (fieldsB s)) ∧ Below w.heap.size w w' :=
  (fields_any s w hE hs).mono fun _ _ ⟨c, he, hc, hz, hL, hb⟩ => ⟨⟨_, he, ⟨_, c, rfl, hc, fun _ => ⟨_, _, rfl, hz, hL⟩⟩⟩, hb⟩
theorem fields_le (s : ByteArray) : (fieldsB s).length ≤ s.size + 1 := by
  have h1 := parts_le 32 s
  have h2 : (fieldsB s).length ≤ (partsB 32 s).length := by rw [← kept_fields]; exact List.length_filter_le _ _
  omega
theorem join_length (x : List UInt8) (r : List (List UInt8)) (sep : List UInt8) : (Lib.join (x :: r) sep).length = x.length + (sep.length * r.length + Lib.lens r) := by
  rw [Lib.join_cons, List.length_append, Lib.joinTail_length]
theorem lens_total (l : List ByteArray) : Lib.lens (l.map (·.data.toList)) = total l := by
  rw [Lib.lens, total, List.map_map]
  congr 1
theorem join_small (sep : ByteArray) (l : List ByteArray) (hs : sep.size ≤ 1000) (hl : l.length ≤ 100) (ht : total l ≤ 5000) : (joinB sep l).size ≤ 140737488355328 := by
  rw [joinB_size]
  cases l with
  | nil => simp [Lib.join_nil]
  | cons x r =>
    rw [List.map_cons, join_length, lens_total, List.length_map, ← size_list, ← size_list]
    have h1 : total (x :: r) = x.size + total r := by simp [total]
    have h2 : r.length ≤ 100 := by simp at hl; omega
    have h3 : sep.size * r.length ≤ 1000 * 100 := Nat.mul_le_mul hs h2
    omega
theorem great_not {l : List ByteArray} (h : greatB l = false) : l.length ≤ 100 ∧ total l ≤ 5000 := by
  simp only [greatB, Bool.or_eq_false_iff, decide_eq_false_iff_not] at h
  omega
theorem own_empty (w : World) : (w.alloc (.cells #[] 9)).ownsRow w.heap.size 9 1 (.slice (some ⟨w.heap.size, 0, none⟩) 0 0) 0 [] :=
  ⟨by simp, .inr ⟨w.heap.size, 0, #[], rfl, Nat.le_refl _, heap_alloc_new w _, Nat.le_refl _, by decide, by simp, by simp⟩⟩
theorem lies_news {w : World} {b o : Nat} {l : List ByteArray} (h : Lies w b o l) : ∀ j u, (l.map Value.string)[j]? = some u → w.cell? ((⟨b, o, none⟩ : Addr).add j) = some u := by
  intro j u hu
  rw [addr_add]
  rw [List.getElem?_map] at hu
  cases hx : l[j]? with
  | none => rw [hx] at hu; cases hu
  | some x =>
    rw [hx] at hu
    have : u = .string x := by simpa using hu.symm
    subst this
    exact h j x hx
theorem row_news {w : World} {ad : Addr} {c : Nat} {l : List ByteArray} (h : Row w (.slice (some ad) l.length c) l) : ∀ j u, (l.map Value.string)[j]? = some u → w.cell? (ad.add j) = some u := by
  obtain ⟨a, c', he, _, hl⟩ := h
  intro j u hu
  have hne : l ≠ [] := fun e => by subst e; simp at hu
  obtain ⟨b, o, ha, hb, hL⟩ := hl hne
  cases he
  cases ha
  exact lies_news hL j u hu
theorem ones (l : List ByteArray) : ∀ u ∈ l.map Value.string, u.oneCell' = true := by
  intro u hu
  rw [List.mem_map] at hu
  obtain ⟨x, _, rfl⟩ := hu
  rfl

set_option maxHeartbeats 1000000 in
theorem parts_long (s : ByteArray) (c : UInt8) (v : Value) (w : World) (hE : Env w) (hs : s.size ≤ 281474976710656) (h : 1000 < s.size) :
    Calls Tryd.prog 4 #[.string s, .int .u8 (c.toNat : Int), v] w fun e w' => e = .returned (.bool true) ∧ Below w.heap.size w w' := by
  go_enter Tryd.func4, Tryd.ntmps4
  go_wp2_with (go_at_call 7; refine (alive_any w hE).mono ?_; rintro e w1 ⟨rfl, d1⟩)
  go_ret
  exact ⟨rfl, d1⟩

set_option maxHeartbeats 1000000 in
theorem parts_great (s : ByteArray) (c : UInt8) (v : Value) (l : List ByteArray) (w : World) (hE : Env w) (h : ¬ 1000 < s.size) (hv : Row w v l) (hl : ∀ x ∈ l, x.size ≤ 281474976710656) (hg : greatB l = true) :
    Calls Tryd.prog 4 #[.string s, .int .u8 (c.toNat : Int), v] w fun e w' => e = .returned (.bool true) ∧ Below w.heap.size w w' := by
  go_enter Tryd.func4, Tryd.ntmps4
  go_wp2_with (go_at_call 7; refine (alive_any w hE).mono ?_; rintro e w1 ⟨rfl, d1⟩)
  refine (great_any v l _ (hv.on d1) hl).mono ?_
  rintro e w2 ⟨rfl, rfl⟩
  rw [hg]
  go_wp2_with fail
  go_ret
  exact ⟨rfl, d1⟩

set_option maxHeartbeats 2000000 in
theorem parts_some (s : ByteArray) (c : UInt8) (ad : Addr) (cp : Nat) (l : List ByteArray) (w : World) (hE : Env w) (h : ¬ 1000 < s.size) (hv : Row w (.slice (some ad) l.length cp) l) (hl : ∀ x ∈ l, x.size ≤ 281474976710656) (hg : greatB l = false) :
    Calls Tryd.prog 4 #[.string s, .int .u8 (c.toNat : Int), .slice (some ad) l.length cp] w fun e w' => e = .returned (.bool true) ∧ Below w.heap.size w w' := by
  obtain ⟨g1, g2⟩ := great_not hg
  have hJs := join_small s l (by omega) g1 g2
  obtain ⟨i0, hi, hz0, hz1, hz2⟩ := info9
  have HI := Lib.hid (And.intro hi (And.intro hz0 (And.intro hz1 hz2)))
  clear hi hz0 hz1 hz2
  go_enter Tryd.func4, Tryd.ntmps4
  go_wp2_with (go_at_call 7; refine (alive_any w hE).mono ?_; rintro e w1 ⟨rfl, d1⟩)
  refine (great_any _ l _ (hv.on d1) hl).mono ?_
  rintro e w1 ⟨rfl, rfl⟩
  rw [hg]
  have hv1 := hv.on d1
  have HV := Lib.hid (row_news (hv1.on ((Below.refl _ _).alloc (Nat.le_refl _) (Obj.cells #[] 9))))
  go_wp2_with (first | (at_builtin; refine wpList_append_own _ rfl _ _ 24 rfl w1.heap.size 9 i0 (.string ⟨#[]⟩) 1 16 Tryd.underlying24 HI.out.1 HI.out.2.1 HI.out.2.2.1 HI.out.2.2.2 rfl (by decide) _ _ _ rfl (own_empty w1) ad l.length cp (l.map Value.string) rfl (by simp) HV.out (ones l) (by unfold maxLen; omega) (by omega) (by simp) ?_; intro v' w2 hown hgrow hnil))
  have hown' : Own w2 w1.heap.size v' l := by
    simp only [Nat.zero_add, List.nil_append] at hown
    exact hown
  have ho2 := own_row hown'
  have n2 : Below w1.heap.size w1 w2 := ((Below.refl _ _).alloc (Nat.le_refl _) _).grown hgrow (by simp) (fun k hk => by cases hk; exact Nat.le_refl _)
  have hv2 := hv1.on n2
  have d2 := d1.trans (n2.mono d1.size)
  clear hown hown' hgrow hnil n2 HV HI hv hv1 d1
  have hE2 := hE.go d2
  refine (split_row s c _ hE2 (by omega)).mono ?_
  rintro e w3 ⟨⟨v3, rfl, hr3⟩, n3⟩
  have hE3 := hE2.go n3
  have hv3 := hv2.on n3
  have ho3 := ho2.on n3
  have d3 := d2.trans (n3.mono d2.size)
  clear hv2 ho2 d2 n3 hE2
  go_wp2_with fail
  refine (refSplit_any s c _ (by omega)).mono ?_
  rintro e w4 ⟨⟨v4, rfl, hr4⟩, n4⟩
  have hE4 := hE3.go n4
  have hv4 := hv3.on n4
  have ho4 := ho3.on n4
  have hr3b := hr3.on n4
  have d4 := d3.trans (n4.mono d3.size)
  clear hv3 ho3 d3 n4 hE3 hr3
  go_wp2_with fail
  refine (same_any v3 v4 (partsB c s) _ hr3b hr4 (by have := parts_le c s; omega)).mono ?_
  rintro e w5 ⟨rfl, n5⟩
  have hE5 := hE4.go n5
  have hv5 := hv4.on n5
  have ho5 := ho4.on n5
  have d5 := d4.trans (n5.mono d4.size)
  clear hv4 ho4 d4 n5 hE4 hr3b hr4
  go_wp2_with fail
  refine (fields_row s _ hE5 (by omega)).mono ?_
  rintro e w6 ⟨⟨v6, rfl, hr6⟩, n6⟩
  have hv6 := hv5.on n6
  have ho6 := ho5.on n6
  have d6 := d5.trans (n6.mono d5.size)
  clear hv5 ho5 d5 n6 hE5
  go_wp2_with fail
  refine (refFields_any s _ (by omega)).mono ?_
  rintro e w7 ⟨⟨v7, rfl, hr7⟩, n7⟩
  have hv7 := hv6.on n7
  have ho7 := ho6.on n7
  have hr6b := hr6.on n7
  have d7 := d6.trans (n7.mono d6.size)
  clear hv6 ho6 d6 n7 hr6
  go_wp2_with fail
  refine (same_any v6 v7 (fieldsB s) _ hr6b hr7 (by have := fields_le s; omega)).mono ?_
  rintro e w8 ⟨rfl, n8⟩
  have hv8 := hv7.on n8
  have ho8 := ho7.on n8
  have d8 := d7.trans (n8.mono d7.size)
  clear hv7 ho7 d7 n8 hr6b hr7
  go_wp2_with fail
  refine (join_row _ l s _ ho8 (by omega) hJs).mono ?_
  rintro e w9 ⟨rfl, n9⟩
  have hv9 := hv8.on n9
  have ho9 := ho8.on n9
  have d9 := d8.trans (n9.mono d8.size)
  clear hv8 ho8 d8 n9
  go_wp2_with fail
  refine (refJoin_any _ l s _ hv9 (by omega) hJs).mono ?_
  rintro e w10 ⟨rfl, rfl⟩
  go_wp2_with fail
  refine (same_any _ _ l _ ho9 hv9 (by omega)).mono ?_
  rintro e w11 ⟨rfl, n11⟩
  have d11 := d9.trans (n11.mono d9.size)
  clear hv9 ho9 d9 n11
  go_wp2_with fail
  go_ret
  exact ⟨rfl, d11⟩

set_option maxHeartbeats 2000000 in
theorem parts_none (s : ByteArray) (c : UInt8) (w : World) (hE : Env w) (h : ¬ 1000 < s.size) :
    Calls Tryd.prog 4 #[.string s, .int .u8 (c.toNat : Int), .slice none 0 0] w fun e w' => e = .returned (.bool true) ∧ Below w.heap.size w w' := by
  have hvw : ∀ W, Row W (.slice none 0 0) [] := fun W => ⟨none, 0, rfl, Nat.le_refl _, fun hne => absurd rfl hne⟩
  have how : ∀ W a, Row W (.slice a 0 0) [] := fun W a => ⟨a, 0, rfl, Nat.le_refl _, fun hne => absurd rfl hne⟩
  obtain ⟨l, hl⟩ : ∃ l : List ByteArray, l = [] := ⟨_, rfl⟩
  rw [← hl] at hvw how
  have g1 : l.length ≤ 100 := by rw [hl]; decide
  have hJs := join_small s l (by omega) g1 (by rw [hl]; decide)
  go_enter Tryd.func4, Tryd.ntmps4
  go_wp2_with (go_at_call 7; refine (alive_any w hE).mono ?_; rintro e w1 ⟨rfl, d1⟩)
  refine (great_zero _ 0 _).mono ?_
  rintro e w1 ⟨rfl, rfl⟩
  go_wp2_with fail
  have n2 : Below w1.heap.size w1 (w1.alloc (Obj.cells #[] 9)) := (Below.refl _ _).alloc (Nat.le_refl _) _
  have hv2 := hvw (w1.alloc (Obj.cells #[] 9))
  have ho2 := how (w1.alloc (Obj.cells #[] 9)) (some ⟨w1.heap.size, 0, none⟩)
  have d2 := d1.trans (n2.mono d1.size)
  clear n2 d1 hvw how hl
  have hE2 := hE.go d2
  refine (split_row s c _ hE2 (by omega)).mono ?_
  rintro e w3 ⟨⟨v3, rfl, hr3⟩, n3⟩
  have hE3 := hE2.go n3
  have hv3 := hv2.on n3
  have ho3 := ho2.on n3
  have d3 := d2.trans (n3.mono d2.size)
  clear hv2 ho2 d2 n3 hE2
  go_wp2_with fail
  refine (refSplit_any s c _ (by omega)).mono ?_
  rintro e w4 ⟨⟨v4, rfl, hr4⟩, n4⟩
  have hE4 := hE3.go n4
  have hv4 := hv3.on n4
  have ho4 := ho3.on n4
  have hr3b := hr3.on n4
  have d4 := d3.trans (n4.mono d3.size)
  clear hv3 ho3 d3 n4 hE3 hr3
  go_wp2_with fail
  refine (same_any v3 v4 (partsB c s) _ hr3b hr4 (by have := parts_le c s; omega)).mono ?_
  rintro e w5 ⟨rfl, n5⟩
  have hE5 := hE4.go n5
  have hv5 := hv4.on n5
  have ho5 := ho4.on n5
  have d5 := d4.trans (n5.mono d4.size)
  clear hv4 ho4 d4 n5 hE4 hr3b hr4
  go_wp2_with fail
  refine (fields_row s _ hE5 (by omega)).mono ?_
  rintro e w6 ⟨⟨v6, rfl, hr6⟩, n6⟩
  have hv6 := hv5.on n6
  have ho6 := ho5.on n6
  have d6 := d5.trans (n6.mono d5.size)
  clear hv5 ho5 d5 n6 hE5
  go_wp2_with fail
  refine (refFields_any s _ (by omega)).mono ?_
  rintro e w7 ⟨⟨v7, rfl, hr7⟩, n7⟩
  have hv7 := hv6.on n7
  have ho7 := ho6.on n7
  have hr6b := hr6.on n7
  have d7 := d6.trans (n7.mono d6.size)
  clear hv6 ho6 d6 n7 hr6
  go_wp2_with fail
  refine (same_any v6 v7 (fieldsB s) _ hr6b hr7 (by have := fields_le s; omega)).mono ?_
  rintro e w8 ⟨rfl, n8⟩
  have hv8 := hv7.on n8
  have ho8 := ho7.on n8
  have d8 := d7.trans (n8.mono d7.size)
  clear hv7 ho7 d7 n8 hr6b hr7
  go_wp2_with fail
  refine (join_row _ l s _ ho8 (by omega) hJs).mono ?_
  rintro e w9 ⟨rfl, n9⟩
  have hv9 := hv8.on n9
  have ho9 := ho8.on n9
  have d9 := d8.trans (n9.mono d8.size)
  clear hv8 ho8 d8 n9
  go_wp2_with fail
  refine (refJoin_any _ l s _ hv9 (by omega) hJs).mono ?_
  rintro e w10 ⟨rfl, rfl⟩
  go_wp2_with fail
  refine (same_any _ _ l _ ho9 hv9 (by omega)).mono ?_
  rintro e w11 ⟨rfl, n11⟩
  have d11 := d9.trans (n11.mono d9.size)
  clear hv9 ho9 d9 n11
  go_wp2_with fail
  go_ret
  exact ⟨rfl, d11⟩
end Go.Proofs.YtiaeopjfggiecaaDoor
