/- Walks: slices of matches of one's own; the program's Parse. -/
import Derived.Test.YtfohknpjlkjbbaaGreatDoorP8
namespace Go.Proofs.YtfohknpjlkjbbaaGreatDoor
open Go Go.RowKit Tg Pk

def flatM (l : List Match) : List Value := l.flatMap fun x => [.int .i64 x.1, .string x.2.1, .string x.2.2]
theorem flatM_len (l : List Match) : (flatM l).length = l.length * 3 := by
  induction l with
  | nil => rfl
  | cons x r ih => simp only [flatM, List.flatMap_cons, List.length_append] at ih ⊢; rw [ih]; simp; omega
theorem flatM_at (l : List Match) : ∀ (i : Nat) (h : i < l.length), (flatM l)[i * 3]? = some (.int .i64 (l[i]).1) ∧ (flatM l)[i * 3 + 1]? = some (.string (l[i]).2.1) ∧ (flatM l)[i * 3 + 2]? = some (.string (l[i]).2.2) := by
  induction l with
  | nil => intro i h; cases h
  | cons x r ih =>
    intro i h
    cases i with
    | zero => exact ⟨rfl, rfl, rfl⟩
    | succ i =>
      have h' : i < r.length := by simpa using h
      obtain ⟨h0, h1, h2⟩ := ih i h'
      have e : flatM (x :: r) = .int .i64 x.1 :: .string x.2.1 :: .string x.2.2 :: flatM r := rfl
      rw [e]
      refine ⟨?_, ?_, ?_⟩
      · rw [show (i + 1) * 3 = i * 3 + 1 + 1 + 1 from by omega]
        simp only [List.getElem?_cons_succ, List.getElem_cons_succ]
        exact h0
      · rw [show (i + 1) * 3 + 1 = i * 3 + 1 + 1 + 1 + 1 from by omega]
        simp only [List.getElem?_cons_succ, List.getElem_cons_succ]
        exact h1
      · rw [show (i + 1) * 3 + 2 = i * 3 + 2 + 1 + 1 + 1 from by omega]
        simp only [List.getElem?_cons_succ, List.getElem_cons_succ]
        exact h2
theorem flatM_one (l : List Match) : ∀ u ∈ flatM l, u.oneCell' = true := by
  intro u hu
  simp only [flatM, List.mem_flatMap] at hu
  obtain ⟨x, _, hx⟩ := hu
  simp at hx
  rcases hx with rfl | rfl | rfl <;> rfl
theorem flatM_cells {w : World} {b o : Nat} {l : List Match} (hL : MLies w b o l) : ∀ j u, (flatM l)[j]? = some u → w.cell? ⟨b, o + j, none⟩ = some u := by
  intro j u hu
  have hj : j < l.length * 3 := by rw [← flatM_len]; exact (List.getElem?_eq_some_iff.1 hu).1
  have hi : j / 3 < l.length := by omega
  obtain ⟨f0, f1, f2⟩ := flatM_at l (j / 3) hi
  obtain ⟨c0, c1, c2⟩ := hL (j / 3) hi
  have hm : j % 3 = 0 ∨ j % 3 = 1 ∨ j % 3 = 2 := by omega
  rcases hm with h | h | h
  · rw [show j / 3 * 3 = j from by omega] at f0 c0
    rw [c0, ← f0, hu]
  · rw [show j / 3 * 3 + 1 = j from by omega] at f1
    rw [show o + j / 3 * 3 + 1 = o + j from by omega] at c1
    rw [c1, ← f1, hu]
  · rw [show j / 3 * 3 + 2 = j from by omega] at f2
    rw [show o + j / 3 * 3 + 2 = o + j from by omega] at c2
    rw [c2, ← f2, hu]
theorem flatM_append (l m : List Match) : flatM (l ++ m) = flatM l ++ flatM m := by simp [flatM]
abbrev OwnM (w : World) (base : Nat) (v : Value) (l : List Match) : Prop := w.ownsRow base 72 3 v l.length (flatM l)
theorem ownM_row {w : World} {base : Nat} {v : Value} {l : List Match} (h : OwnM w base v l) : MRow w v l := by
  rcases h.2 with ⟨h0, h1⟩ | ⟨g, cap, cur, hv, hb, hg, hc, _, hcur, ht⟩
  · have hl : l = [] := List.length_eq_zero_iff.1 h1
    subst hl
    exact ⟨none, 0, h0, Nat.le_refl _, fun hne => absurd rfl hne⟩
  · refine ⟨_, cap, hv, hc, fun _ => ⟨g, 0, rfl, ?_, ?_⟩⟩
    · rcases Nat.lt_or_ge g w.heap.size with hlt | hge
      · exact hlt
      · rw [Array.getElem?_eq_none hge] at hg; cases hg
    · intro i hi
      obtain ⟨f0, f1, f2⟩ := flatM_at l i hi
      have hcell : ∀ j, w.cell? ⟨g, j, none⟩ = cur[j]? := fun j => cell_of_row w g j cur 72 (0, 0) hg
      rw [← ht, List.getElem?_take] at f0 f1 f2
      rw [hcell, hcell, hcell]
      rw [if_pos (by omega)] at f0 f1 f2
      simp only [Array.getElem?_toList] at f0 f1 f2
      rw [Nat.zero_add]
      exact ⟨f0, f1, f2⟩
set_option maxRecDepth 100000 in
set_option maxRecDepth 100000 in
theorem info39 : ∃ i, Tryz.prog.info? 72 = some i ∧ i.zero = some (.agg #[.int .i64 0, .string ⟨#[]⟩, .string ⟨#[]⟩]) ∧ i.size = 3 ∧ i.bytes = 40 := ⟨_, rfl, rfl, rfl, rfl⟩
theorem new1M (w : World) (k : Int) (n v : ByteArray) : ∀ j u, [Value.int .i64 k, Value.string n, Value.string v][j]? = some u → (w.alloc (.cells #[.int .i64 k, .string n, .string v] 72)).cell? ((⟨w.heap.size, 0, none⟩ : Addr).add j) = some u := by
  intro j u h
  match j, h with
  | 0, h => simp at h; subst h; simp [Addr.add]
  | 1, h => simp at h; subst h; simp [Addr.add]
  | 2, h => simp at h; subst h; simp [Addr.add]
  | j + 3, h => simp at h
theorem one1M (k : Int) (n v : ByteArray) : ∀ u ∈ [Value.int .i64 k, Value.string n, Value.string v], u.oneCell' = true := by
  intro u hu
  simp at hu
  rcases hu with rfl | rfl | rfl <;> rfl
theorem ownM_next {w' : World} {base : Nat} {v' : Value} {l : List Match} {x : Match} (h : w'.ownsRow base 72 3 v' (l.length + 1) (flatM l ++ [Value.int .i64 x.1, Value.string x.2.1, Value.string x.2.2])) : OwnM w' base v' (l ++ [x]) := by
  show w'.ownsRow base 72 3 v' (l ++ [x]).length (flatM (l ++ [x]))
  rw [flatM_append]
  simpa [flatM] using h
/-- What an append of one match leaves. -/
theorem ownM_below {w W w' : World} {base : Nat} {v : Value} {l : List Match} {o : Obj} (hd : Below base w W) (hb : base ≤ W.heap.size) (h : OwnM W base v l) (hg : (W.alloc o).grownBy w' v.ownBlock) : Below base w w' :=
  (hd.alloc hb _).grown hg (by simp; omega) (fun k hk => (h.lt k hk).1)
theorem ownM_nil (w : World) (base : Nat) : OwnM w base (.slice none 0 0) [] := World.ownsRow_nil _ _ _ _

/-- The matches of the first k parts. -/
def readk (P : List (List UInt8)) (k : Nat) : List Match := (P.take k).map pread
theorem readk_next {P : List (List UInt8)} {k : Nat} (hk : k < P.length) : readk P (k + 1) = readk P k ++ [pread P[k]] := by
  unfold readk
  rw [List.take_succ_eq_append_getElem hk, List.map_append]
  rfl
theorem readk_len (P : List (List UInt8)) (k : Nat) : (readk P k).length ≤ P.length := by
  unfold readk
  rw [List.length_map]
  exact List.length_take_le' _ _
theorem readk_all {P : List (List UInt8)} {k : Nat} (hk : ¬ k < P.length) : readk P k = P.map pread := by
  unfold readk
  rw [List.take_of_length_le (by omega)]
theorem readk_small {P : List (List UInt8)} {k B : Nat} (hB : ∀ p ∈ P, p.length ≤ B) : ∀ x ∈ readk P k, x.2.1.size ≤ B ∧ x.2.2.size ≤ B := by
  intro x hx
  obtain ⟨p, hp, rfl⟩ := List.mem_map.1 hx
  have h1 := hB p (List.mem_of_mem_take hp)
  have h2 := pread_small p
  omega
theorem pparse_nil {s : List UInt8} (h : s = []) : pparse s = ([], 0) := by unfold pparse; rw [if_pos h]
theorem pparse_form {s : List UInt8} (h : ¬ s = []) (h1 : ((Word.parts 44 s).map pread).all pmay = false) : pparse s = ([], 2) := by unfold pparse; rw [if_neg h, h1]; rfl
theorem pparse_many {s : List UInt8} (h : ¬ s = []) (h1 : ((Word.parts 44 s).map pread).all pmay = true) (h2 : ¬ (Word.parts 44 s).length ≤ 4) : pparse s = ([], 4) := by unfold pparse; rw [if_neg h, h1, if_pos rfl, if_neg h2]
theorem pparse_is {s : List UInt8} (h : ¬ s = []) (h1 : ((Word.parts 44 s).map pread).all pmay = true) (h2 : (Word.parts 44 s).length ≤ 4) : pparse s = ((Word.parts 44 s).map pread, 0) := by unfold pparse; rw [if_neg h, h1, if_pos rfl, if_pos h2]

set_option maxRecDepth 100000 in
set_option maxHeartbeats 1000000 in
theorem parseM_any (s : ByteArray) (w : World) (hE : Env w) (hs : s.size ≤ 900) :
    Calls Tryz.prog 90 #[.string s] w fun e w' => (∃ v', e = .returned (.tuple #[v', .int .i64 (pparse s.data.toList).2]) ∧ MRow w' v' (pparse s.data.toList).1) ∧ Below w.heap.size w w' := by
  obtain ⟨C, HC⟩ : ∃ C, Hid (pparse s.data.toList = C) := ⟨_, rfl⟩
  rw [HC.out]
  by_cases he : s.data.toList = []
  · obtain ⟨hq, hq2, hq3⟩ := empty_in s (by rw [he]; rfl)
    have HD : Hid (C = ([], 0)) := (HC.out).symm.trans (pparse_nil he)
    clear HC he
    go_enter Tryz.func90, Tryz.ntmps90
    go_wp2_with fail
    go_ret2
    rw [HD.out]
    exact ⟨⟨_, rfl, MRow.nil _⟩, Below.refl _ _⟩
  · obtain ⟨hq, hq2⟩ := empty_not s (by cases hx : s.data.toList with | nil => exact absurd hx he | cons a r => rfl)
    have HD1 : Hid (((Word.parts 44 s.data.toList).map pread).all pmay = false → C = ([], 2)) := fun h => (HC.out).symm.trans (pparse_form he h)
    have HD2 : Hid (((Word.parts 44 s.data.toList).map pread).all pmay = true → ¬ (Word.parts 44 s.data.toList).length ≤ 4 → C = ([], 4)) := fun h h2 => (HC.out).symm.trans (pparse_many he h h2)
    have HD3 : Hid (((Word.parts 44 s.data.toList).map pread).all pmay = true → (Word.parts 44 s.data.toList).length ≤ 4 → C = ((Word.parts 44 s.data.toList).map pread, 0)) := fun h h2 => (HC.out).symm.trans (pparse_is he h h2)
    clear HC he
    obtain ⟨i0, hi, hz0, hz1, hz2⟩ := info39
    have HI := Lib.hid (And.intro hi (And.intro hz0 (And.intro hz1 hz2)))
    clear hi hz0 hz1 hz2
    have HSp := Lib.hid (split_any s 44 w hE (by omega))
    have hL := splitW_lies 44 s w
    have d1 := splitW_below 44 s w
    have hz := splitW_size 44 s w
    have hE1 := hE.go d1
    have HPs : Hid (∀ p ∈ Word.parts 44 s.data.toList, p.length ≤ 900) := fun p hp => by
      have := parts_small 44 _ p hp
      rw [← size_list] at this
      omega
    have hPm := parts_many 44 s.data.toList
    rw [← size_list] at hPm
    have HG : Hid (∀ k (h1 : k < (partsB 44 s).length) (h2 : k < (Word.parts 44 s.data.toList).length), (partsB 44 s)[k] = ba (Word.parts 44 s.data.toList)[k]) := fun k h1 h2 => parts_get h1 h2
    have HPl := Lib.hid (partsB_len 44 s)
    generalize splitW 44 s w = w1 at *
    generalize Word.parts 44 s.data.toList = P at *
    generalize partsB 44 s = Q at *
    have HL := Lib.hid hL
    clear hL hE
    go_enter Tryz.func90, Tryz.ntmps90
    go_wp2_with (first | (go_at_call 67; refine (HSp.out).mono ?_; rintro e w' ⟨rfl, hw⟩; have hw := hw.symm; subst hw))
    go_loopw [4, 12] (fun out i wr => ∃ (k : Nat), k ≤ Q.length ∧ i = .int .i64 k ∧ Hid (OwnM wr w1.heap.size out (readk P k)) ∧ Below w1.heap.size w1 wr) (fun _ i _ => Q.length - (intOf i).toNat)
    case atStart => exact ⟨0, Nat.zero_le _, rfl, ownM_nil _ _, Below.refl _ _⟩
    case round =>
      obtain ⟨k, hk, rfl, HO, hbl⟩ := hrel
      have hql : Q.length ≤ 901 := by rw [HPl.out]; omega
      by_cases hlt : k < Q.length
      · have hlp : k < P.length := by rw [← HPl.out]; exact hlt
        have e1 := ((HL.out.on (by omega) hbl).at k hlt)
        rw [HG.out k hlt hlp, Nat.zero_add] at e1
        have i1 : (k : Int) < (Q.length : Int) := by omega
        have i2 : (0 : Int) ≤ (k : Int) := by omega
        have hbz := hbl.size
        have hsz : (ba P[k]).size ≤ 100000 := by
          have := HPs.out _ (List.getElem_mem hlp)
          rw [size_list, ba_list]
          omega
        have HR := Lib.hid (read_any (ba P[k]) wr (hE1.go hbl) hsz)
        rw [ba_list] at HR
        have HK := Lib.hid (readk_next hlp)
        have hkl := readk_len P k
        rw [← HPl.out] at hkl
        generalize P[k] = p at *
        generalize pread p = x at *
        obtain ⟨kd, n, v⟩ := x
        unfold matV at HR
        dsimp only at HR
        clear HL HG HPs hsz HD1 HD2 HD3
        go_wp2_with fail
        refine (HR.out).mono ?_
        rintro e w2 ⟨rfl, n2⟩
        have hb2 := hbl.trans (n2.mono hbl.size)
        have HO2 := Lib.hid (own_on HO.out n2)
        have hbz2 : w1.heap.size ≤ w2.heap.size := hb2.size
        clear n2 HR e1 HO hbl
        go_wp2_with (first
          | (at_builtin; refine wpList_append_own _ rfl _ _ 22 rfl w1.heap.size 72 i0 (.agg #[.int .i64 0, .string ⟨#[]⟩, .string ⟨#[]⟩]) 3 40 Tryz.underlying22 HI.out.1 HI.out.2.1 HI.out.2.2.1 HI.out.2.2.2 rfl (by decide) _ _ _ rfl (World.ownsRow.alloc (w := w2) HO2.out _) ⟨w2.heap.size, 0, none⟩ 1 1 [Value.int .i64 kd, Value.string n, Value.string v] rfl rfl (new1M w2 kd n v) (one1M kd n v) (by unfold maxLen; omega) (by omega) (by simp; omega) ?_; intro v' w3 hown hgrow hnil))
        have HO3 := Lib.hid (ownM_next (x := (kd, n, v)) hown)
        have hb3 := ownM_below hb2 hbz2 HO2.out hgrow
        exact ⟨⟨k + 1, by omega, by go_num, by rw [HK.out]; exact HO3, hb3⟩, by simp [intOf]; omega⟩
      · have HE := Lib.hid (readk_all (P := P) (k := k) (by rw [← HPl.out]; exact hlt))
        have hr := ownM_row HO.out
        have HSm : Hid (∀ x ∈ readk P k, x.2.1.size ≤ 281474976710656 ∧ x.2.2.size ≤ 281474976710656) := fun x hx => by
          have := readk_small HPs.out x hx
          omega
        have hkl := readk_len P k
        rw [← HPl.out] at hkl
        have hlen : (readk P k).length = P.length := by rw [HE.out, List.length_map]
        rw [← HE.out] at HD1 HD2 HD3
        have HLn := Lib.hid hlen
        clear hlen
        generalize readk P k = L at *
        clear HO HL HG HPs HI HE
        have H1 := formedM_any _ L _ hr (by omega) HSm.out
        obtain ⟨a, c, rfl, hc, hat⟩ := hr
        have hr : MRow wr (.slice a L.length c) L := ⟨a, c, rfl, hc, hat⟩
        cases hf : L.all pmay
        · have HX := Lib.hid (HD1.out hf)
          rw [hf] at H1
          have H1 := Lib.hid H1
          clear HD1 HD2 HD3 hf hat hr
          go_wp2_with fail
          refine (H1.out).mono ?_
          rintro e w3 ⟨rfl, n3⟩
          go_wp2_with fail
          go_ret2
          rw [HX.out]
          exact ⟨⟨_, rfl, MRow.nil _⟩, d1.trans ((hbl.trans (n3.mono hbl.size)).mono d1.size)⟩
        · rw [hf] at H1
          have H1 := Lib.hid H1
          by_cases h4 : L.length ≤ 4
          · have HX := Lib.hid (HD3.out hf (by rw [← HLn.out]; exact h4))
            clear HD1 HD2 HD3 hf hat
            go_wp2_with fail
            refine (H1.out).mono ?_
            rintro e w3 ⟨rfl, n3⟩
            go_wp2_with fail
            go_ret2
            rw [HX.out]
            exact ⟨⟨_, rfl, hr.on n3⟩, d1.trans ((hbl.trans (n3.mono hbl.size)).mono d1.size)⟩
          · have HX := Lib.hid (HD2.out hf (by rw [← HLn.out]; exact h4))
            clear HD1 HD2 HD3 hf hat hr
            go_wp2_with fail
            refine (H1.out).mono ?_
            rintro e w3 ⟨rfl, n3⟩
            go_wp2_with fail
            go_ret2
            rw [HX.out]
            exact ⟨⟨_, rfl, MRow.nil _⟩, d1.trans ((hbl.trans (n3.mono hbl.size)).mono d1.size)⟩
end Go.Proofs.YtfohknpjlkjbbaaGreatDoor
