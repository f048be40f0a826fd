/- Walks: the law TagTells. -/
import Derived.Test.YtjeimgngnbgopaaDoorL1
namespace Go.Proofs.YtjeimgngnbgopaaDoor
open Go Go.RowKit Go.Sort Tg

set_option maxHeartbeats 1000000 in
theorem tells_great (v vn : Value) (l : List Tag) (w : World) (hE : Env w) (h : TRow w v l) (hl : ∀ x ∈ l, x.1.size ≤ 281474976710656 ∧ x.2.size ≤ 281474976710656) (hg : greatT l = true) :
    Calls Tryd.prog 3 #[v, vn] w fun e w' => e = .returned (.bool true) ∧ Below w.heap.size w w' := by
  go_enter Tryd.func3, Tryd.ntmps3
  go_wp2_with fail
  refine (alive_any w hE).mono ?_
  rintro e w1 ⟨rfl, d1⟩
  go_wp2_with fail
  refine (great_any v l w1 (h.on d1) hl).mono ?_
  rintro e w2 ⟨rfl, rfl⟩
  rw [hg]
  go_wp2_with fail
  go_ret
  exact ⟨rfl, d1⟩

set_option maxHeartbeats 1000000 in
theorem tells_many (v : Value) (an : Option Addr) (nn cn : Nat) (l : List Tag) (w : World) (hE : Env w) (h : TRow w v l) (hl : ∀ x ∈ l, x.1.size ≤ 281474976710656 ∧ x.2.size ≤ 281474976710656) (hg : greatT l = false) (hn : 20 < nn) :
    Calls Tryd.prog 3 #[v, .slice an nn cn] w fun e w' => e = .returned (.bool true) ∧ Below w.heap.size w w' := by
  go_enter Tryd.func3, Tryd.ntmps3
  go_wp2_with fail
  refine (alive_any w hE).mono ?_
  rintro e w1 ⟨rfl, d1⟩
  go_wp2_with fail
  refine (great_any v l w1 (h.on d1) hl).mono ?_
  rintro e w2 ⟨rfl, rfl⟩
  rw [hg]
  go_wp2_with fail
  go_ret
  exact ⟨rfl, d1⟩

theorem flat_news {w : World} {ad : Addr} {c : Nat} {l : List Tag} (h : TRow w (.slice (some ad) l.length c) l) : ∀ j u, (flat l)[j]? = some u → (w.alloc (Obj.cells #[] 41)).cell? (ad.add j) = some u := by
  intro j u hu
  obtain ⟨a, c', he, _, hl⟩ := h
  cases he
  have hne : l ≠ [] := fun e => by subst e; simp [flat] at hu
  obtain ⟨b, o, ha, hb, hL⟩ := hl hne
  cases ha
  rw [addr_add, World.cell?_alloc_lt _ _ _ (show (⟨b, o + j, none⟩ : Addr).block < w.heap.size from hb)]
  exact flat_cells hL j u hu

set_option maxRecDepth 100000 in
set_option maxHeartbeats 2000000 in
theorem tells_some (ad : Addr) (cp : Nat) (vn : Value) (l : List Tag) (ns : List ByteArray) (w : World) (hE : Env w) (hv : TRow w (.slice (some ad) l.length cp) l) (hn : Row w vn ns) (hg : greatT l = false) (hns : ns.length ≤ 20) :
    Calls Tryd.prog 3 #[.slice (some ad) l.length cp, vn] w fun e w' => e = .returned (.bool true) ∧ Below w.heap.size w w' := by
  obtain ⟨g1, g2⟩ := great_not hg
  obtain ⟨g3, g4⟩ := small_of g2 (by omega)
  have hts := text_size l 201 (fun t ht => by have := g2 t ht; omega)
  obtain ⟨i0, hi, hz0, hz1, hz2⟩ := info41
  have HI := Lib.hid (And.intro hi (And.intro hz0 (And.intro hz1 hz2)))
  clear hi hz0 hz1 hz2 g2
  obtain ⟨an0, cn0, hvn0, hcn0, hatn0⟩ := hn
  subst hvn0
  have hn : Row w (.slice an0 ns.length cn0) ns := ⟨an0, cn0, rfl, hcn0, hatn0⟩
  clear hatn0
  go_enter Tryd.func3, Tryd.ntmps3
  go_wp2_with fail
  refine (alive_any w hE).mono ?_
  rintro e w1 ⟨rfl, d1⟩
  have hv1 := hv.on d1
  have hn1 := hn.on d1
  go_wp2_with fail
  refine (great_any _ l w1 hv1 g3).mono ?_
  rintro e w1 ⟨rfl, rfl⟩
  rw [hg]
  have HV := Lib.hid (flat_news hv1)
  go_wp2_with (first | (at_builtin; refine wpList_append_own _ rfl _ _ 22 rfl w1.heap.size 41 i0 (.agg #[.string ⟨#[]⟩, .string ⟨#[]⟩]) 2 32 Tryd.underlying22 HI.out.1 HI.out.2.1 HI.out.2.2.1 HI.out.2.2.2 rfl (by decide) _ _ _ rfl (World.ownsRow_made w1 #[] 0 (Nat.le_refl _) (Nat.zero_le _) (by simp)) ad l.length cp (flat l) rfl (flat_len l) HV.out (flat_one l) (by unfold maxLen; omega) (by omega) (by simp) ?_; intro v2 w2 hown hgrow hnil))
  have hO : OwnT w2 w1.heap.size v2 l := by simpa using hown
  have n2 : Below w1.heap.size w1 w2 := ((Below.refl _ _).alloc (Nat.le_refl _) _).grown hgrow (by simp) (fun k hk => by cases hk; exact Nat.le_refl _)
  have ho2 := ownT_row hO
  have hv2 := hv1.on n2
  have hn2 := hn1.on n2
  have d2 := d1.trans (n2.mono d1.size)
  clear hown hgrow hnil hO n2 HV HI hv1 hn1 d1 hv hn
  have hE2 := hE.go d2
  clear hE
  go_wp2_with fail
  refine (canon_any _ l w2 ho2 (by omega) g3).mono ?_
  rintro e w3 ⟨⟨v3, rfl, hr3⟩, n3⟩
  have ho3 := ho2.on n3
  have hv3 := hv2.on n3
  have hn3 := hn2.on n3
  have d3 := d2.trans (n3.mono d2.size)
  clear n3 d2 ho2 hv2 hn2 hE2
  go_wp2_with fail
  refine (refCanon_any _ l w3 hv3 (by omega) g3).mono ?_
  rintro e w4 ⟨⟨v4, rfl, hr4⟩, n4⟩
  have ho4 := ho3.on n4
  have hv4 := hv3.on n4
  have hn4 := hn3.on n4
  have hc4 := hr3.on n4
  have d4 := d3.trans (n4.mono d3.size)
  clear n4 d3 ho3 hv3 hn3 hr3
  have hcl := canon_le l
  generalize canon l = C at *
  obtain ⟨an, cn, hvn, hcn, hatn⟩ := hn4
  cases hvn
  have HN : Hid (Row w4 (.slice an0 ns.length cn0) ns) := ⟨an0, cn0, rfl, hcn, hatn⟩
  have HA := Lib.hid hatn
  clear hatn
  go_wp2_with fail
  go_loopw [10] (fun i wr => ∃ (k : Nat), k ≤ ns.length ∧ i = .int .i64 k ∧ Below w4.heap.size w4 wr) (fun i _ => ns.length - (intOf i).toNat)
  case atStart => exact ⟨0, Nat.zero_le _, rfl, Below.refl _ _⟩
  case round =>
    obtain ⟨k, hk, rfl, hbl⟩ := hrel
    by_cases hlt : k < ns.length
    · as_aux_lemma =>
        obtain ⟨bn, on, rfl, hbn, hLn⟩ := HA.out (ne_of_lt hlt)
        have e1 := (hLn.on hbn hbl).at k hlt
        have i1 : (k : Int) < (ns.length : Int) := by omega
        have i2 : (0 : Int) ≤ (k : Int) := by omega
        have HN2 := Lib.hid (hLn)
        clear hLn
        go_wp2_with fail
        refine (find_any _ l ns[k] wr (ho4.on hbl) (by omega)).mono ?_
        rintro e w5 ⟨rfl, n5⟩
        have hb5 := hbl.trans (n5.mono hbl.size)
        have e2 := (HN2.out.on hbn hb5).at k hlt
        clear e1 n5
        go_wp2_with fail
        refine (refFind_any _ l ns[k] w5 (hv4.on hb5) (by omega)).mono ?_
        rintro e w6 ⟨rfl, rfl⟩
        generalize find l ns[k] = F at *
        generalize ns[k] = y at *
        have q1 := beq_self_ba F.1
        go_wp2_with fail
        exact ⟨⟨k + 1, by omega, by go_num, hb5⟩, by simp [intOf]; omega⟩
    · as_aux_lemma =>
        have ho5 := ho4.on hbl
        have hv5 := hv4.on hbl
        have hn5 := HN.out.on hbl
        have hc5 := hc4.on hbl
        have hr5 := hr4.on hbl
        have d5 := d4.trans (hbl.mono d4.size)
        clear ho4 hv4 hc4 hr4 d4 hbl HA HN
        go_wp2_with fail
        refine (same_any _ _ C.1 wr hc5 hr5 (by omega)).mono ?_
        rintro e w6 ⟨rfl, n6⟩
        have ho6 := ho5.on n6
        have hv6 := hv5.on n6
        have hn6 := hn5.on n6
        have d6 := d5.trans (n6.mono d5.size)
        clear n6 d5 ho5 hv5 hn5 hc5 hr5
        go_wp2_with fail
        refine (right_any _ l w6 ho6 (by omega) g3).mono ?_
        rintro e w7 ⟨rfl, n7⟩
        have ho7 := ho6.on n7
        have hv7 := hv6.on n7
        have hn7 := hn6.on n7
        have d7 := d6.trans (n7.mono d6.size)
        clear n7 d6 ho6 hv6 hn6
        go_wp2_with fail
        refine (refRight_any _ l w7 hv7 (by omega) g3).mono ?_
        rintro e w8 ⟨rfl, n8⟩
        have ho8 := ho7.on n8
        have hv8 := hv7.on n8
        have hn8 := hn7.on n8
        have d8 := d7.trans (n8.mono d7.size)
        clear n8 d7 ho7 hv7 hn7
        generalize right l = R at *
        have qR : (R == R) = true := by simp
        go_wp2_with fail
        refine (text_any _ l w8 ho8 (by omega) g4 (by omega)).mono ?_
        rintro e w9 ⟨rfl, n9⟩
        have ho9 := ho8.on n9
        have hv9 := hv8.on n9
        have hn9 := hn8.on n9
        have d9 := d8.trans (n9.mono d8.size)
        clear n9 d8 ho8 hv8 hn8
        go_wp2_with fail
        refine (refText_any _ l w9 hv9 (by omega) g4 (by omega)).mono ?_
        rintro e w10 ⟨rfl, n10⟩
        have ho10 := ho9.on n10
        have hv10 := hv9.on n10
        have hn10 := hn9.on n10
        have d10 := d9.trans (n10.mono d9.size)
        clear n10 d9 ho9 hv9 hn9
        have qT := beq_self_ba (textB l)
        generalize textB l = X at *
        go_wp2_with fail
        refine (only_any _ _ l ns w10 ho10 hn10 (by omega) (by omega)).mono ?_
        rintro e w11 ⟨⟨v11, rfl, hr11⟩, n11⟩
        have ho11 := ho10.on n11
        have hv11 := hv10.on n11
        have hn11 := hn10.on n11
        have d11 := d10.trans (n11.mono d10.size)
        clear n11 d10 ho10 hv10 hn10
        go_wp2_with fail
        refine (refOnly_any _ _ l ns w11 hv11 hn11 (by omega) (by omega)).mono ?_
        rintro e w12 ⟨⟨v12, rfl, hr12⟩, n12⟩
        have ho12 := ho11.on n12
        have hv12 := hv11.on n12
        have hr11 := hr11.on n12
        have d12 := d11.trans (n12.mono d11.size)
        clear n12 d11 ho11 hv11 hn11
        have hol := only_len l ns l.length
        rw [List.take_length] at hol
        go_wp2_with fail
        refine (same_any _ _ (only l ns) w12 hr11 hr12 (by omega)).mono ?_
        rintro e w13 ⟨rfl, n13⟩
        have ho13 := ho12.on n13
        have hv13 := hv12.on n13
        have d13 := d12.trans (n13.mono d12.size)
        clear n13 d12 ho12 hv12 hr11 hr12
        go_wp2_with fail
        refine (same_any _ _ l w13 ho13 hv13 (by omega)).mono ?_
        rintro e w14 ⟨rfl, n14⟩
        have d14 := d13.trans (n14.mono d13.size)
        go_wp2_with fail
        go_ret
        exact ⟨rfl, d14⟩

set_option maxRecDepth 100000 in
set_option maxHeartbeats 2000000 in
theorem tells_none (vn : Value) (l : List Tag) (hl0 : l = []) (ns : List ByteArray) (w : World) (hE : Env w) (hn : Row w vn ns) (hns : ns.length ≤ 20) :
    Calls Tryd.prog 3 #[.slice none 0 0, vn] w fun e w' => e = .returned (.bool true) ∧ Below w.heap.size w w' := by
  have g3 : ∀ x ∈ l, x.1.size ≤ 281474976710656 ∧ x.2.size ≤ 281474976710656 := fun x hx => by subst hl0; cases hx
  have g4 : ∀ x ∈ l, x.1.size ≤ 100000 ∧ x.2.size ≤ 100000 := fun x hx => by subst hl0; cases hx
  have g1 : l.length ≤ 20 := by subst hl0; simp
  have hts : (textB l).size ≤ 20 := by subst hl0; decide
  have hv : TRow w (.slice none 0 0) l := by subst hl0; exact TRow.nil w
  have hg : greatT l = false := by subst hl0; rfl
  have HO0 : Hid (∀ W : World, TRow (W.alloc (Obj.cells #[] 41)) (.slice (some ⟨W.heap.size, 0, none⟩) 0 0) l) := fun W => by subst hl0; exact ⟨_, 0, rfl, Nat.le_refl _, fun hne => absurd rfl hne⟩
  clear hl0
  obtain ⟨an0, cn0, hvn0, hcn0, hatn0⟩ := hn
  subst hvn0
  have hn : Row w (.slice an0 ns.length cn0) ns := ⟨an0, cn0, rfl, hcn0, hatn0⟩
  clear hatn0
  go_enter Tryd.func3, Tryd.ntmps3
  go_wp2_with fail
  refine (alive_any w hE).mono ?_
  rintro e w1 ⟨rfl, d1⟩
  have hv1 := hv.on d1
  have hn1 := hn.on d1
  go_wp2_with fail
  refine (great_any _ l w1 hv1 g3).mono ?_
  rintro e w1 ⟨rfl, rfl⟩
  rw [hg]
  have ho2 := HO0.out w1
  have n2 : Below w1.heap.size w1 (w1.alloc (Obj.cells #[] 41)) := (Below.refl _ _).alloc (Nat.le_refl _) _
  have hv2 := hv1.on n2
  have hn2 := hn1.on n2
  have d2 := d1.trans (n2.mono d1.size)
  clear n2 hv1 hn1 d1 hv hn HO0
  go_wp2_with fail
  generalize hW2 : w1.alloc (Obj.cells #[] 41) = w2 at *
  clear hW2
  have hE2 := hE.go d2
  clear hE
  go_wp2_with fail
  refine (canon_any _ l w2 ho2 (by omega) g3).mono ?_
  rintro e w3 ⟨⟨v3, rfl, hr3⟩, n3⟩
  have ho3 := ho2.on n3
  have hv3 := hv2.on n3
  have hn3 := hn2.on n3
  have d3 := d2.trans (n3.mono d2.size)
  clear n3 d2 ho2 hv2 hn2 hE2
  go_wp2_with fail
  refine (refCanon_any _ l w3 hv3 (by omega) g3).mono ?_
  rintro e w4 ⟨⟨v4, rfl, hr4⟩, n4⟩
  have ho4 := ho3.on n4
  have hv4 := hv3.on n4
  have hn4 := hn3.on n4
  have hc4 := hr3.on n4
  have d4 := d3.trans (n4.mono d3.size)
  clear n4 d3 ho3 hv3 hn3 hr3
  have hcl := canon_le l
  generalize canon l = C at *
  obtain ⟨an, cn, hvn, hcn, hatn⟩ := hn4
  cases hvn
  have HN : Hid (Row w4 (.slice an0 ns.length cn0) ns) := ⟨an0, cn0, rfl, hcn, hatn⟩
  have HA := Lib.hid hatn
  clear hatn
  go_wp2_with fail
  go_loopw [10] (fun i wr => ∃ (k : Nat), k ≤ ns.length ∧ i = .int .i64 k ∧ Below w4.heap.size w4 wr) (fun i _ => ns.length - (intOf i).toNat)
  case atStart => exact ⟨0, Nat.zero_le _, rfl, Below.refl _ _⟩
  case round =>
    obtain ⟨k, hk, rfl, hbl⟩ := hrel
    by_cases hlt : k < ns.length
    · as_aux_lemma =>
        obtain ⟨bn, on, rfl, hbn, hLn⟩ := HA.out (ne_of_lt hlt)
        have e1 := (hLn.on hbn hbl).at k hlt
        have i1 : (k : Int) < (ns.length : Int) := by omega
        have i2 : (0 : Int) ≤ (k : Int) := by omega
        have HN2 := Lib.hid (hLn)
        clear hLn
        go_wp2_with fail
        refine (find_any _ l ns[k] wr (ho4.on hbl) (by omega)).mono ?_
        rintro e w5 ⟨rfl, n5⟩
        have hb5 := hbl.trans (n5.mono hbl.size)
        have e2 := (HN2.out.on hbn hb5).at k hlt
        clear e1 n5
        go_wp2_with fail
        refine (refFind_any _ l ns[k] w5 (hv4.on hb5) (by omega)).mono ?_
        rintro e w6 ⟨rfl, rfl⟩
        generalize find l ns[k] = F at *
        generalize ns[k] = y at *
        have q1 := beq_self_ba F.1
        go_wp2_with fail
        exact ⟨⟨k + 1, by omega, by go_num, hb5⟩, by simp [intOf]; omega⟩
    · as_aux_lemma =>
        have ho5 := ho4.on hbl
        have hv5 := hv4.on hbl
        have hn5 := HN.out.on hbl
        have hc5 := hc4.on hbl
        have hr5 := hr4.on hbl
        have d5 := d4.trans (hbl.mono d4.size)
        clear ho4 hv4 hc4 hr4 d4 hbl HA HN
        go_wp2_with fail
        refine (same_any _ _ C.1 wr hc5 hr5 (by omega)).mono ?_
        rintro e w6 ⟨rfl, n6⟩
        have ho6 := ho5.on n6
        have hv6 := hv5.on n6
        have hn6 := hn5.on n6
        have d6 := d5.trans (n6.mono d5.size)
        clear n6 d5 ho5 hv5 hn5 hc5 hr5
        go_wp2_with fail
        refine (right_any _ l w6 ho6 (by omega) g3).mono ?_
        rintro e w7 ⟨rfl, n7⟩
        have ho7 := ho6.on n7
        have hv7 := hv6.on n7
        have hn7 := hn6.on n7
        have d7 := d6.trans (n7.mono d6.size)
        clear n7 d6 ho6 hv6 hn6
        go_wp2_with fail
        refine (refRight_any _ l w7 hv7 (by omega) g3).mono ?_
        rintro e w8 ⟨rfl, n8⟩
        have ho8 := ho7.on n8
        have hv8 := hv7.on n8
        have hn8 := hn7.on n8
        have d8 := d7.trans (n8.mono d7.size)
        clear n8 d7 ho7 hv7 hn7
        generalize right l = R at *
        have qR : (R == R) = true := by simp
        go_wp2_with fail
        refine (text_any _ l w8 ho8 (by omega) g4 (by omega)).mono ?_
        rintro e w9 ⟨rfl, n9⟩
        have ho9 := ho8.on n9
        have hv9 := hv8.on n9
        have hn9 := hn8.on n9
        have d9 := d8.trans (n9.mono d8.size)
        clear n9 d8 ho8 hv8 hn8
        go_wp2_with fail
        refine (refText_any _ l w9 hv9 (by omega) g4 (by omega)).mono ?_
        rintro e w10 ⟨rfl, n10⟩
        have ho10 := ho9.on n10
        have hv10 := hv9.on n10
        have hn10 := hn9.on n10
        have d10 := d9.trans (n10.mono d9.size)
        clear n10 d9 ho9 hv9 hn9
        have qT := beq_self_ba (textB l)
        generalize textB l = X at *
        go_wp2_with fail
        refine (only_any _ _ l ns w10 ho10 hn10 (by omega) (by omega)).mono ?_
        rintro e w11 ⟨⟨v11, rfl, hr11⟩, n11⟩
        have ho11 := ho10.on n11
        have hv11 := hv10.on n11
        have hn11 := hn10.on n11
        have d11 := d10.trans (n11.mono d10.size)
        clear n11 d10 ho10 hv10 hn10
        go_wp2_with fail
        refine (refOnly_any _ _ l ns w11 hv11 hn11 (by omega) (by omega)).mono ?_
        rintro e w12 ⟨⟨v12, rfl, hr12⟩, n12⟩
        have ho12 := ho11.on n12
        have hv12 := hv11.on n12
        have hr11 := hr11.on n12
        have d12 := d11.trans (n12.mono d11.size)
        clear n12 d11 ho11 hv11 hn11
        have hol := only_len l ns l.length
        rw [List.take_length] at hol
        go_wp2_with fail
        refine (same_any _ _ (only l ns) w12 hr11 hr12 (by omega)).mono ?_
        rintro e w13 ⟨rfl, n13⟩
        have ho13 := ho12.on n13
        have hv13 := hv12.on n13
        have d13 := d12.trans (n13.mono d12.size)
        clear n13 d12 ho12 hv12 hr11 hr12
        go_wp2_with fail
        refine (same_any _ _ l w13 ho13 hv13 (by omega)).mono ?_
        rintro e w14 ⟨rfl, n14⟩
        have d14 := d13.trans (n14.mono d13.size)
        go_wp2_with fail
        go_ret
        exact ⟨rfl, d14⟩

theorem tells_walk (ad : Addr) (cp : Nat) (vn : Value) (l : List Tag) (ns : List ByteArray) (w : World) (hE : Env w) (h : TRow w (.slice (some ad) l.length cp) l) (hn : Row w vn ns) (hl : ∀ x ∈ l, x.1.size ≤ 281474976710656 ∧ x.2.size ≤ 281474976710656) :
    Calls Tryd.prog 3 #[.slice (some ad) l.length cp, vn] w fun e w' => e = .returned (.bool true) ∧ Below w.heap.size w w' := by
  cases hg : greatT l
  · by_cases hns : ns.length ≤ 20
    · exact tells_some ad cp vn l ns w hE h hn hg hns
    · obtain ⟨an, cn, hvn, _, _⟩ := hn
      subst hvn
      exact tells_many _ an ns.length cn l w hE h hl hg (by omega)
  · exact tells_great _ vn l w hE h hl hg
theorem tells_nil (vn : Value) (ns : List ByteArray) (w : World) (hE : Env w) (hn : Row w vn ns) :
    Calls Tryd.prog 3 #[.slice none 0 0, vn] w fun e w' => e = .returned (.bool true) ∧ Below w.heap.size w w' := by
  by_cases hns : ns.length ≤ 20
  · exact tells_none vn [] rfl ns w hE hn hns
  · obtain ⟨an, cn, hvn, _, _⟩ := hn
    subst hvn
    exact tells_many _ an ns.length cn [] w hE (TRow.nil w) (fun x hx => by cases hx) rfl (by omega)
end Go.Proofs.YtjeimgngnbgopaaDoor
