/- What the program's own functions are held to, and the fixed fact with which each law begins. -/
import Derived.Test.YtehgpibngalhfaaGreatDoorN8
namespace Go.Proofs.YtehgpibngalhfaaGreatDoor.Rw
open Go Go.RowKit Go.Sort Go.Lib Tg Pk Ky Qy Df

/-- The program's own answers are those of the plain functions. -/
structure Own9 (B : Nat) : Prop where
  of : ∀ (v1 v2 : Value) (a b : List Row) (w : World), Env w → St.Env B w → RRow w v1 a → RRow w v2 b → a.length ≤ 400 → b.length ≤ 400 → (∀ x ∈ a, x.grp.size ≤ 900) → (∀ x ∈ b, x.grp.size ≤ 900) → (∀ x ∈ a, okR x) → (∀ x ∈ b, okR x) →
    Calls Tryz.prog 10 #[v1, v2] w fun e w' => (∃ v', e = .returned (.tuple #[v', .int .i64 (ofE a b).2]) ∧ CRow w' v' (ofE a b).1) ∧ Below w.heap.size w w'
  apply : ∀ (v1 v2 : Value) (l : List Row) (cs : List Chg) (w : World), Env w → St.Env B w → RRow w v1 l → CRow w v2 cs → l.length ≤ 400 → cs.length ≤ 400 → (∀ x ∈ l, x.grp.size ≤ 900) → (∀ x ∈ cs, x.r.grp.size ≤ 900) → (∀ x ∈ l, okR x) → (∀ x ∈ cs, okR x.r) →
    Calls Tryz.prog 17 #[v1, v2] w fun e w' => (∃ v', e = .returned (.tuple #[v', .int .i64 (applyE l cs).2]) ∧ RRow w' v' (applyE l cs).1) ∧ Below w.heap.size w w'
  text : ∀ (v : Value) (l : List Chg) (w : World), St.Env B w → CRow w v l → (∀ x ∈ l, okR x.r) → l.length ≤ 1000 → (∀ x ∈ l, x.r.grp.size ≤ 100000) → (ctextB l).size ≤ 140737488355328 →
    Calls Tryz.prog 14 #[v] w fun e w' => e = .returned (.string (ctextB l)) ∧ Below w.heap.size w w'
  parse : ∀ (s : ByteArray) (w : World), Env w → St.Env B w → s.size ≤ 900000 → (∀ x ∈ partsB 59 s, x.size ≤ 890) →
    Calls Tryz.prog 20 #[.string s] w fun e w' => (∃ v', e = .returned (.tuple #[v', .int .i64 (cparse s.data.toList).2]) ∧ CRow w' v' (cparse s.data.toList).1) ∧ Below w.heap.size w w'
  same : ∀ (v1 v2 : Value) (l m : List Chg) (w : World), CRow w v1 l → CRow w v2 m → l.length ≤ 1000000 →
    Calls Tryz.prog 19 #[v1, v2] w fun e w' => e = .returned (.bool (sameC l m)) ∧ Below w.heap.size w w'

def exA : List Row := [⟨3, ⟨#[]⟩, 5, false⟩, ⟨4, ⟨#[]⟩, 7, false⟩]
def exB : List Row := [⟨4, ⟨#[]⟩, 8, false⟩, ⟨5, ⟨#[]⟩, 1, false⟩]
def exD : List Chg := [⟨⟨3, ⟨#[]⟩, 0, false⟩, true⟩, ⟨⟨4, ⟨#[]⟩, 8, false⟩, false⟩, ⟨⟨5, ⟨#[]⟩, 1, false⟩, false⟩]
def exZ : List Row := [⟨0, ⟨#[]⟩, 0, false⟩, ⟨0, ⟨#[]⟩, 0, false⟩]
def t1 : ByteArray := ⟨#[51, 124, 124, 53, 59, 52, 124, 124, 55]⟩
def t2 : ByteArray := ⟨#[52, 124, 124, 56, 59, 53, 124, 124, 49]⟩
def t3 : ByteArray := ⟨#[33, 51, 124, 59, 52, 124, 124, 56, 59, 53, 124, 124, 49]⟩
theorem g1 : rparse t1.data.toList = (exA, 0) := by kernel_rfl
theorem g2 : rparse t2.data.toList = (exB, 0) := by kernel_rfl
theorem g3 : ofE exA exB = (exD, 0) := by kernel_rfl
theorem g4 : applyE exA exD = (exB, 0) := by kernel_rfl
theorem g5 : cparse t3.data.toList = (exD, 0) := by kernel_rfl
theorem g6 : applyE exB exD = ([], 6) := by kernel_rfl
theorem g7 : ofE exZ exB = ([], 9) := by kernel_rfl
theorem g8 : ctextB exD = t3 := by kernel_rfl
theorem g9 : sameC exD exD = true := (sameC_true _ _).2 rfl
theorem ga : sameC exD [] = false := by kernel_rfl
theorem gb : ctextB [] = ⟨#[45]⟩ := by kernel_rfl
theorem gc : sameR exB exB = true := (sameR_true _ _).2 rfl
theorem small_t1 : ∀ x ∈ partsB 59 t1, x.size ≤ 900 := fun x hx => by have := part_le hx; have e : t1.size = 9 := rfl; omega
theorem small_t2 : ∀ x ∈ partsB 59 t2, x.size ≤ 900 := fun x hx => by have := part_le hx; have e : t2.size = 9 := rfl; omega
theorem small_t3 : ∀ x ∈ partsB 59 t3, x.size ≤ 890 := fun x hx => by have := part_le hx; have e : t3.size = 13 := rfl; omega
theorem ok_exA : ∀ r ∈ exA, okR r := by
  intro r hr
  simp only [exA, List.mem_cons, List.not_mem_nil, or_false] at hr
  rcases hr with rfl | rfl <;> exact ⟨⟨by decide, by decide⟩, ⟨by decide, by decide⟩⟩
theorem ok_exB : ∀ r ∈ exB, okR r := by
  intro r hr
  simp only [exB, List.mem_cons, List.not_mem_nil, or_false] at hr
  rcases hr with rfl | rfl <;> exact ⟨⟨by decide, by decide⟩, ⟨by decide, by decide⟩⟩
theorem ok_exZ : ∀ r ∈ exZ, okR r := by
  intro r hr
  simp only [exZ, List.mem_cons, List.not_mem_nil, or_false] at hr
  rcases hr with rfl | rfl <;> exact ⟨⟨by decide, by decide⟩, ⟨by decide, by decide⟩⟩
theorem ok_exD : ∀ c ∈ exD, okR c.r := by
  intro r hr
  simp only [exD, List.mem_cons, List.not_mem_nil, or_false] at hr
  rcases hr with rfl | rfl | rfl <;> exact ⟨⟨by decide, by decide⟩, ⟨by decide, by decide⟩⟩
theorem sz_exA : ∀ r ∈ exA, r.grp.size ≤ 900 := by
  intro r hr
  simp only [exA, List.mem_cons, List.not_mem_nil, or_false] at hr
  rcases hr with rfl | rfl <;> decide
theorem sz_exB : ∀ r ∈ exB, r.grp.size ≤ 900 := by
  intro r hr
  simp only [exB, List.mem_cons, List.not_mem_nil, or_false] at hr
  rcases hr with rfl | rfl <;> decide
theorem sz_exZ : ∀ r ∈ exZ, r.grp.size ≤ 900 := by
  intro r hr
  simp only [exZ, List.mem_cons, List.not_mem_nil, or_false] at hr
  rcases hr with rfl | rfl <;> decide
theorem sz_exD : ∀ c ∈ exD, c.r.grp.size ≤ 900 := by
  intro r hr
  simp only [exD, List.mem_cons, List.not_mem_nil, or_false] at hr
  rcases hr with rfl | rfl | rfl <;> decide
theorem rrow_new (w : World) (arr : Array Value) (T : TypeId) (l : List Row) (h : arr.toList = flatG rowC l) : RRow (w.alloc (.cells arr T)) (.slice (some ⟨w.heap.size, 0, none⟩) l.length l.length) l := by
  refine ⟨_, _, rfl, Nat.le_refl _, fun _ => ⟨_, _, rfl, by simp, lies_of_flat rowC_len (fun j u hu => ?_)⟩⟩
  rw [Nat.zero_add, cell_of_row _ w.heap.size j arr T (0, 0) (heap_alloc_new _ _), ← Array.getElem?_toList, h]
  exact hu

set_option maxRecDepth 100000 in
set_option maxHeartbeats 4000000 in
theorem alive_any (B : Nat) (O : Own9 B) (w : World) (hE : Env w) (hF : St.Env B w) :
    Calls Tryz.prog 8 #[] w fun e w' => e = .returned (.bool true) ∧ Below w.heap.size w w' := by
  have P1 := Lib.hid (fun W => refRparse_any t1 W (by decide) small_t1)
  have P2 := Lib.hid (fun W => refRparse_any t2 W (by decide) small_t2)
  have P3 := Lib.hid (fun W (d : Below w.heap.size w W) v1 v2 (h1 : RRow W v1 exA) (h2 : RRow W v2 exB) => O.of v1 v2 exA exB W (hE.go d) (hF.go d) h1 h2 (by decide) (by decide) sz_exA sz_exB ok_exA ok_exB)
  have P4 := Lib.hid (fun W (d : Below w.heap.size w W) v1 v2 (h1 : RRow W v1 exA) (h2 : CRow W v2 exD) => O.apply v1 v2 exA exD W (hE.go d) (hF.go d) h1 h2 (by decide) (by decide) sz_exA sz_exD ok_exA ok_exD)
  have P5 := Lib.hid (fun W (d : Below w.heap.size w W) => O.parse t3 W (hE.go d) (hF.go d) (by decide) small_t3)
  have P6 := Lib.hid (fun W (d : Below w.heap.size w W) v1 v2 (h1 : RRow W v1 exB) (h2 : CRow W v2 exD) => O.apply v1 v2 exB exD W (hE.go d) (hF.go d) h1 h2 (by decide) (by decide) sz_exB sz_exD ok_exB ok_exD)
  have P7 := Lib.hid (fun W (d : Below w.heap.size w W) v1 v2 (h1 : RRow W v1 exZ) (h2 : RRow W v2 exB) => O.of v1 v2 exZ exB W (hE.go d) (hF.go d) h1 h2 (by decide) (by decide) sz_exZ sz_exB ok_exZ ok_exB)
  have P8 := Lib.hid (fun W (d : Below w.heap.size w W) v (h : CRow W v exD) => O.text v exD W (hF.go d) h ok_exD (by decide) (fun x hx => by have := sz_exD x hx; omega) (by rw [g8]; decide))
  have P9 := Lib.hid (fun W v1 v2 (h1 : RRow W v1 exB) (h2 : RRow W v2 exB) => refSame_any v1 v2 exB exB W h1 h2 (by decide))
  have PA := Lib.hid (fun W v1 v2 (h1 : CRow W v1 exD) (h2 : CRow W v2 exD) => O.same v1 v2 exD exD W h1 h2 (by decide))
  have PB := Lib.hid (fun W v1 v2 (h1 : CRow W v1 exD) (h2 : CRow W v2 []) => O.same v1 v2 exD [] W h1 h2 (by decide))
  have PC := Lib.hid (fun W (d : Below w.heap.size w W) v (h : CRow W v []) => O.text v [] W (hF.go d) h (fun x hx => by simp at hx) (by decide) (fun x hx => by simp at hx) (by rw [gb]; decide))
  rw [g1] at P1
  rw [g2] at P2
  rw [g3] at P3
  rw [g4] at P4
  rw [g5] at P5
  rw [g6] at P6
  rw [g7] at P7
  rw [g8] at P8
  rw [gc] at P9
  rw [g9] at PA
  rw [ga] at PB
  rw [gb] at PC
  dsimp only at P1 P2 P3 P4 P5 P6 P7
  unfold t1 at P1
  unfold t2 at P2
  unfold t3 at P5 P8
  have yA : exA.length = 2 := rfl
  have yB : exB.length = 2 := rfl
  have yD : exD.length = 3 := rfl
  go_enter Tryz.func8, Tryz.ntmps8
  go_wp2_with fail
  refine (P1.out _).mono ?_
  rintro e w1 ⟨⟨_, rfl, r1⟩, d1⟩
  have R1 := Lib.hid r1
  obtain ⟨a1, c1, rfl, -, -⟩ := r1
  clear P1
  go_wp2_with fail
  refine (P2.out _).mono ?_
  rintro e w2 ⟨⟨_, rfl, r2⟩, n2⟩
  have R1 := Lib.hid (R1.out.on n2)
  have R2 := Lib.hid r2
  have d2 := d1.trans (n2.mono d1.size)
  obtain ⟨a2, c2, rfl, -, -⟩ := r2
  clear P2 n2 d1
  go_wp2_with fail
  refine (P3.out _ d2 _ _ R1.out R2.out).mono ?_
  rintro e w3 ⟨⟨_, rfl, r3⟩, n3⟩
  have R1 := Lib.hid (R1.out.on n3)
  have R2 := Lib.hid (R2.out.on n3)
  have R3 := Lib.hid r3
  have d3 := d2.trans (n3.mono d2.size)
  obtain ⟨a3, c3, rfl, -, -⟩ := r3
  clear P3 n3 d2
  go_wp2_with fail
  refine (P4.out _ d3 _ _ R1.out R3.out).mono ?_
  rintro e w4 ⟨⟨_, rfl, r4⟩, n4⟩
  have R2 := Lib.hid (R2.out.on n4)
  have R3 := Lib.hid (R3.out.on n4)
  have R4 := Lib.hid r4
  have d4 := d3.trans (n4.mono d3.size)
  obtain ⟨a4, c4, rfl, -, -⟩ := r4
  clear P4 n4 d3 R1
  go_wp2_with fail
  refine (P5.out _ d4).mono ?_
  rintro e w5 ⟨⟨_, rfl, r5⟩, n5⟩
  have R2 := Lib.hid (R2.out.on n5)
  have R3 := Lib.hid (R3.out.on n5)
  have R4 := Lib.hid (R4.out.on n5)
  have R5 := Lib.hid r5
  have d5 := d4.trans (n5.mono d4.size)
  obtain ⟨a5, c5, rfl, -, -⟩ := r5
  clear P5 n5 d4
  go_wp2_with fail
  refine (P6.out _ d5 _ _ R2.out R3.out).mono ?_
  rintro e w6 ⟨⟨_, rfl, r6⟩, n6⟩
  have R2 := Lib.hid (R2.out.on n6)
  have R3 := Lib.hid (R3.out.on n6)
  have R4 := Lib.hid (R4.out.on n6)
  have R5 := Lib.hid (R5.out.on n6)
  have d6 := d5.trans (n6.mono d5.size)
  obtain ⟨a6, c6, rfl, -, -⟩ := r6
  clear P6 n6 d5
  go_wp2_with fail
  have na := aBelow w6 (.cells #[.int .i64 0, .string ⟨#[]⟩, .int .i64 0, .bool false, .int .i64 0, .string ⟨#[]⟩, .int .i64 0, .bool false] 45)
  refine (P7.out _ (d6.trans (na.mono d6.size)) _ _ (rrow_new w6 _ 45 exZ rfl) (R2.out.on na)).mono ?_
  rintro e w7 ⟨⟨_, rfl, r7⟩, n7⟩
  have n7 := na.trans (n7.mono na.size)
  have R2 := Lib.hid (R2.out.on n7)
  have R3 := Lib.hid (R3.out.on n7)
  have R4 := Lib.hid (R4.out.on n7)
  have R5 := Lib.hid (R5.out.on n7)
  have d7 := d6.trans (n7.mono d6.size)
  obtain ⟨a7, c7, rfl, -, -⟩ := r7
  clear P7 n7 d6 na
  go_wp2_with fail
  refine (P8.out _ d7 _ R3.out).mono ?_
  rintro e w8 ⟨rfl, n8⟩
  have R2 := Lib.hid (R2.out.on n8)
  have R3 := Lib.hid (R3.out.on n8)
  have R4 := Lib.hid (R4.out.on n8)
  have R5 := Lib.hid (R5.out.on n8)
  have d8 := d7.trans (n8.mono d7.size)
  clear P8 n8 d7
  go_wp2_with fail
  refine (P9.out _ _ _ R4.out R2.out).mono ?_
  rintro e w9 ⟨rfl, n9⟩
  have R3 := Lib.hid (R3.out.on n9)
  have R5 := Lib.hid (R5.out.on n9)
  have d9 := d8.trans (n9.mono d8.size)
  clear P9 n9 d8 R2 R4
  go_wp2_with fail
  refine (PA.out _ _ _ R3.out R5.out).mono ?_
  rintro e wa ⟨rfl, na⟩
  have R3 := Lib.hid (R3.out.on na)
  have da := d9.trans (na.mono d9.size)
  clear PA na d9 R5
  go_wp2_with fail
  refine (PB.out _ _ _ R3.out (GRow.nil _)).mono ?_
  rintro e wb ⟨rfl, nb⟩
  have db := da.trans (nb.mono da.size)
  clear PB nb da R3
  go_wp2_with fail
  refine (PC.out _ db _ (GRow.nil _)).mono ?_
  rintro e wc ⟨rfl, nc⟩
  have dc := db.trans (nc.mono db.size)
  clear PC nc db
  go_wp2_with fail
  go_ret
  exact ⟨rfl, dc⟩

end Go.Proofs.YtehgpibngalhfaaGreatDoor.Rw
