/- Walks: the fixed fact with which each law begins. -/
import Derived.Test.YtidkpalckafgkaaGreatDoorE9
import Derived.Test.YtidkpalckafgkaaGreatDoorF1
import Derived.Test.YtidkpalckafgkaaGreatDoorA8
import Derived.Test.YtidkpalckafgkaaGreatDoorC6
namespace Go.Proofs.YtidkpalckafgkaaGreatDoor.Rw
open Go Go.RowKit Go.Sort Go.Lib Tg Pk Ky Qy

def exL : List Row := [⟨3, ⟨#[97, 61, 49]⟩, 5, false⟩, ⟨4, ⟨#[]⟩, 7, true⟩]
def exQ : Query := (2, ⟨#[99, 112, 117]⟩, [], [⟨#[97]⟩])
def exC : Cl.Cell := ⟨1, 5, false, 5, 5⟩
def exI : List Item := [⟨4, ⟨#[99, 112, 117, 123, 97, 61, 50, 125]⟩, exC⟩, ⟨4, ⟨#[99, 112, 117, 123, 97, 61, 49, 44, 98, 61, 57, 125]⟩, exC⟩, ⟨4, ⟨#[99, 112, 117, 123, 97, 61, 49, 125]⟩, exC⟩, ⟨4, ⟨#[109, 101, 109]⟩, exC⟩]
def exR : List Row := [⟨4, ⟨#[97, 61, 49]⟩, 10, false⟩, ⟨4, ⟨#[97, 61, 50]⟩, 5, false⟩]
def t1 : ByteArray := ⟨#[51, 124, 97, 61, 49, 124, 53, 59, 52, 124, 124, 55, 33]⟩
def t2 : ByteArray := ⟨#[52, 124, 124, 55, 59, 51, 124, 124, 53]⟩
def t3 : ByteArray := ⟨#[51, 124, 53]⟩
def t4 : ByteArray := ⟨#[115, 117, 109, 32, 99, 112, 117, 32, 98, 121, 32, 97]⟩
def t5 : ByteArray := ⟨#[52, 124, 97, 61, 49, 124, 49, 48, 59, 52, 124, 97, 61, 50, 124, 53]⟩
theorem g1 : rparse t1.data.toList = (exL, 0) := by kernel_rfl
theorem g2 : rparse t2.data.toList = ([], 9) := by kernel_rfl
theorem g3 : rparse t3.data.toList = ([], 2) := by kernel_rfl
theorem g4 : qparse t4.data.toList = (exQ, 0) := by kernel_rfl
theorem g5 : Cl.ofL [5] = exC := by kernel_rfl
theorem g6 : answer exQ exI = exR := by kernel_rfl
theorem g7 : rtextB exL = t1 := by kernel_rfl
theorem g8 : rtextB [] = ⟨#[45]⟩ := by kernel_rfl
theorem g9 : rtextB exR = t5 := by kernel_rfl
theorem ga : rright exR = true := by kernel_rfl
theorem gb : rlt ⟨3, ⟨#[97, 61, 49]⟩, 5, false⟩ ⟨4, ⟨#[]⟩, 7, true⟩ = true := by kernel_rfl
theorem gc : sameR exL exL = true := (sameR_true _ _).2 rfl
theorem gd : sameR exL exR = false := by kernel_rfl
theorem small_t1 : ∀ x ∈ partsB 59 t1, x.size ≤ 900 := fun x hx => by have := part_le hx; have e : t1.size = 13 := rfl; omega
theorem small_t2 : ∀ x ∈ partsB 59 t2, x.size ≤ 900 := fun x hx => by have := part_le hx; have e : t2.size = 9 := rfl; omega
theorem small_t3 : ∀ x ∈ partsB 59 t3, x.size ≤ 900 := fun x hx => by have := part_le hx; have e : t3.size = 3 := rfl; omega
theorem ok_exL : ∀ r ∈ exL, okR r := by
  intro r hr
  simp only [exL, List.mem_cons, List.not_mem_nil, or_false] at hr
  rcases hr with rfl | rfl <;> exact ⟨⟨by decide, by decide⟩, ⟨by decide, by decide⟩⟩
theorem ok_exR : ∀ r ∈ exR, okR r := by
  intro r hr
  simp only [exR, List.mem_cons, List.not_mem_nil, or_false] at hr
  rcases hr with rfl | rfl <;> exact ⟨⟨by decide, by decide⟩, ⟨by decide, by decide⟩⟩
theorem ok_exC : Cl.okC exC := by
  refine ⟨⟨?_, ?_⟩, ⟨?_, ?_⟩, ⟨?_, ?_⟩, ?_, ?_⟩ <;> decide
theorem ok_exI : ∀ r ∈ exI, okI r := by
  intro r hr
  simp only [exI, List.mem_cons, List.not_mem_nil, or_false] at hr
  rcases hr with rfl | rfl | rfl | rfl <;> exact ⟨⟨by decide, by decide⟩, ok_exC⟩
theorem sz_exL : ∀ r ∈ exL, r.grp.size ≤ 100 := by
  intro r hr
  simp only [exL, List.mem_cons, List.not_mem_nil, or_false] at hr
  rcases hr with rfl | rfl <;> decide
theorem sz_exR : ∀ r ∈ exR, r.grp.size ≤ 100 := by
  intro r hr
  simp only [exR, List.mem_cons, List.not_mem_nil, or_false] at hr
  rcases hr with rfl | rfl <;> decide
theorem sz_exI : ∀ r ∈ exI, r.key.size ≤ 900 := by
  intro r hr
  simp only [exI, List.mem_cons, List.not_mem_nil, or_false] at hr
  rcases hr with rfl | rfl | rfl | rfl <;> decide

theorem irow_new (w : World) (arr : Array Value) (T : TypeId) (l : List Item) (h : arr.toList = flatG itC l) : IRow (w.alloc (.cells arr T)) (.slice (some ⟨w.heap.size, 0, none⟩) l.length l.length) l := by
  refine ⟨_, _, rfl, Nat.le_refl _, fun _ => ⟨_, _, rfl, by simp, lies_of_flat itC_len (fun j u hu => ?_)⟩⟩
  rw [Nat.zero_add, cell_of_row _ w.heap.size j arr T (0, 0) (heap_alloc_new _ _), ← Array.getElem?_toList, h]
  exact hu
theorem al_on {b1 o1 : Nat} {w w1 w2 : World} (h : w1.cell? ⟨b1, o1, none⟩ = some (.int .i64 3) ∧ w1.cell? ⟨b1, o1 + 1, none⟩ = some (.string ⟨#[97, 61, 49]⟩) ∧ w1.cell? ⟨b1, o1 + 2, none⟩ = some (.int .i64 5) ∧ w1.cell? ⟨b1, o1 + 3, none⟩ = some (.bool false) ∧ w1.cell? ⟨b1, o1 + 4, none⟩ = some (.int .i64 4) ∧ w1.cell? ⟨b1, o1 + 4 + 1, none⟩ = some (.string ⟨#[]⟩) ∧ w1.cell? ⟨b1, o1 + 4 + 2, none⟩ = some (.int .i64 7) ∧ w1.cell? ⟨b1, o1 + 4 + 3, none⟩ = some (.bool true) ∧ Below w.heap.size w w1) (n : Below w1.heap.size w1 w2) :
    w2.cell? ⟨b1, o1, none⟩ = some (.int .i64 3) ∧ w2.cell? ⟨b1, o1 + 1, none⟩ = some (.string ⟨#[97, 61, 49]⟩) ∧ w2.cell? ⟨b1, o1 + 2, none⟩ = some (.int .i64 5) ∧ w2.cell? ⟨b1, o1 + 3, none⟩ = some (.bool false) ∧ w2.cell? ⟨b1, o1 + 4, none⟩ = some (.int .i64 4) ∧ w2.cell? ⟨b1, o1 + 4 + 1, none⟩ = some (.string ⟨#[]⟩) ∧ w2.cell? ⟨b1, o1 + 4 + 2, none⟩ = some (.int .i64 7) ∧ w2.cell? ⟨b1, o1 + 4 + 3, none⟩ = some (.bool true) ∧ Below w.heap.size w w2 := by
  have k := (Keeps.refl w1).on n
  exact ⟨k.2 _ _ h.1, k.2 _ _ h.2.1, k.2 _ _ h.2.2.1, k.2 _ _ h.2.2.2.1, k.2 _ _ h.2.2.2.2.1, k.2 _ _ h.2.2.2.2.2.1, k.2 _ _ h.2.2.2.2.2.2.1, k.2 _ _ h.2.2.2.2.2.2.2.1, h.2.2.2.2.2.2.2.2.trans (n.mono h.2.2.2.2.2.2.2.2.size)⟩
theorem al_b {b1 o1 : Nat} {w w1 : World} (h : w1.cell? ⟨b1, o1, none⟩ = some (.int .i64 3) ∧ w1.cell? ⟨b1, o1 + 1, none⟩ = some (.string ⟨#[97, 61, 49]⟩) ∧ w1.cell? ⟨b1, o1 + 2, none⟩ = some (.int .i64 5) ∧ w1.cell? ⟨b1, o1 + 3, none⟩ = some (.bool false) ∧ w1.cell? ⟨b1, o1 + 4, none⟩ = some (.int .i64 4) ∧ w1.cell? ⟨b1, o1 + 4 + 1, none⟩ = some (.string ⟨#[]⟩) ∧ w1.cell? ⟨b1, o1 + 4 + 2, none⟩ = some (.int .i64 7) ∧ w1.cell? ⟨b1, o1 + 4 + 3, none⟩ = some (.bool true) ∧ Below w.heap.size w w1) : Below w.heap.size w w1 := h.2.2.2.2.2.2.2.2
def arrI : Array Value := #[.int .i64 4, .string ⟨#[99, 112, 117, 123, 97, 61, 50, 125]⟩, .int .i64 1, .int .i64 5, .bool false, .int .i64 5, .int .i64 5, .int .i64 4, .string ⟨#[99, 112, 117, 123, 97, 61, 49, 44, 98, 61, 57, 125]⟩, .int .i64 1, .int .i64 5, .bool false, .int .i64 5, .int .i64 5, .int .i64 4, .string ⟨#[99, 112, 117, 123, 97, 61, 49, 125]⟩, .int .i64 1, .int .i64 5, .bool false, .int .i64 5, .int .i64 5, .int .i64 4, .string ⟨#[109, 101, 109]⟩, .int .i64 1, .int .i64 5, .bool false, .int .i64 5, .int .i64 5]
theorem arrI_flat : arrI.toList = flatG itC exI := rfl

set_option maxRecDepth 100000 in
set_option maxHeartbeats 2000000 in
theorem alive_any (B : Nat) (w : World) (hE : Env w) (hF : St.Env B w) :
    Calls Tryz.prog 9 #[] w fun e w' => e = .returned (.bool true) ∧ Below w.heap.size w w' := by
  have P1 := Lib.hid (fun W (h : Env W) (hf : St.Env B W) => rparse_any B t1 W h hf (by decide) small_t1)
  have P2 := Lib.hid (fun W (h : Env W) (hf : St.Env B W) => rparse_any B t2 W h hf (by decide) small_t2)
  have P3 := Lib.hid (fun W (h : Env W) (hf : St.Env B W) => rparse_any B t3 W h hf (by decide) small_t3)
  have P4 := Lib.hid (fun W => refQparse_any t4 W (by decide))
  rw [g1] at P1
  rw [g2] at P2
  rw [g3] at P3
  rw [g4] at P4
  dsimp only at P1 P2 P3 P4
  unfold t1 at P1
  unfold t2 at P2
  unfold t3 at P3
  unfold t4 at P4
  go_enter Tryz.func9, Tryz.ntmps9
  go_wp2_with fail
  refine (P1.out _ hE hF).mono ?_
  rintro e w1 ⟨⟨_, rfl, r1⟩, d1⟩
  obtain ⟨a1, c1, rfl, hc1, hl1⟩ := r1
  have yL : exL.length = 2 := rfl
  have R1 : Hid (RRow w1 (.slice a1 2 c1) exL) := ⟨a1, c1, rfl, hc1, hl1⟩
  rw [yL]
  clear P1 hc1 hl1 yL
  go_wp2_with fail
  refine (P2.out _ (hE.go d1) (hF.go d1)).mono ?_
  rintro e w2 ⟨⟨_, rfl, r2⟩, n2⟩
  have R1 := Lib.hid (R1.out.on n2)
  have d2 := d1.trans (n2.mono d1.size)
  obtain ⟨a2, c2, rfl, -, -⟩ := r2
  clear P2 n2 d1
  go_wp2_with fail
  refine (P3.out _ (hE.go d2) (hF.go d2)).mono ?_
  rintro e w3 ⟨⟨_, rfl, r3⟩, n3⟩
  have R1 := Lib.hid (R1.out.on n3)
  have d3 := d2.trans (n3.mono d2.size)
  obtain ⟨a3, c3, rfl, -, -⟩ := r3
  clear P3 n3 d2
  go_wp2_with fail
  refine (P4.out _).mono ?_
  rintro e w4 ⟨⟨_, rfl, r4⟩, n4⟩
  have R1 := Lib.hid (R1.out.on n4)
  have d4 := d3.trans (n4.mono d3.size)
  obtain ⟨qa, qc, qb, qd, rfl, -, -⟩ := r4.open
  have y1 : exQ.1 = 2 := rfl
  have y2 : exQ.2.1 = ⟨#[99, 112, 117]⟩ := rfl
  have y3 : exQ.2.2.1.length = 0 := rfl
  have y4 : exQ.2.2.2.length = 1 := rfl
  rw [y1, y2, y3, y4] at r4
  rw [y1, y2, y3, y4]
  clear P4 d3 y1 y2 y3 y4
  have n5 := belowA2' w4 (.cells #[.int .i64 2, .string ⟨#[99, 112, 117]⟩, .slice qa 0 qc, .slice qb 1 qd] 39) (.cells #[.int .i64 5] 2)
  have R1 := Lib.hid (R1.out.on n5)
  have R4 := Lib.hid (r4.on n5)
  have d5 := d4.trans (n5.mono d4.size)
  have X5 : QX w4.heap.size 2 ⟨#[99, 112, 117]⟩ (.slice qa 0 qc) (.slice qb 1 qd) ((w4.alloc (.cells #[.int .i64 2, .string ⟨#[99, 112, 117]⟩, .slice qa 0 qc, .slice qb 1 qd] 39)).alloc (.cells #[.int .i64 5] 2)) := by
    refine ⟨?_, ?_, ?_, ?_⟩ <;> simp
  have A5 : Ce.IAt ((w4.alloc (.cells #[.int .i64 2, .string ⟨#[99, 112, 117]⟩, .slice qa 0 qc, .slice qb 1 qd] 39)).alloc (.cells #[.int .i64 5] 2)) (some ⟨w4.heap.size + 1, 0, none⟩) [5] := by
    intro _
    refine ⟨_, _, rfl, by simp, ?_⟩
    intro i hi
    have : i = 0 := by simpa using hi
    subst this
    simp
  have OF := Lib.hid (Ce.refOfs_any _ 1 [5] _ A5 (fun x hx => by simp at hx; subst hx; exact ⟨by decide, by decide⟩) (by decide))
  rw [g5] at OF
  clear n4 n5 d4 r4 A5
  go_wp2_with fail
  generalize ((w4.alloc (.cells #[.int .i64 2, .string ⟨#[99, 112, 117]⟩, .slice qa 0 qc, .slice qb 1 qd] 39)).alloc (.cells #[.int .i64 5] 2)) = w5 at *
  generalize w4.heap.size = q0 at *
  refine (OF.out).mono ?_
  rintro e w6 ⟨rfl, n6⟩
  unfold exC
  dsimp only
  have R1 := Lib.hid (R1.out.on n6)
  have R4 := Lib.hid (R4.out.on n6)
  have X6 := Lib.hid (X5.keep ((Keeps.refl w5).on n6))
  have d6 := d5.trans (n6.mono d5.size)
  clear OF n6 d5 X5
  have n7 := aBelow w6 (.cells #[.int .i64 1, .int .i64 5, .bool false, .int .i64 5, .int .i64 5] 48)
  have X7 := X6.out.keep ((Keeps.refl w6).on n7)
  obtain ⟨z0, z1, z2, z3⟩ := X7
  go_wp2_with fail
  clear z0 z1 z2 z3
  have hz7 : (w6.alloc (.cells #[.int .i64 1, .int .i64 5, .bool false, .int .i64 5, .int .i64 5] 48)).heap.size = w6.heap.size + 1 := by simp
  have n8 := n7.trans ((aBelow (w6.alloc (.cells #[.int .i64 1, .int .i64 5, .bool false, .int .i64 5, .int .i64 5] 48)) (.cells arrI 50)).mono n7.size)
  have I8 := irow_new (w6.alloc (.cells #[.int .i64 1, .int .i64 5, .bool false, .int .i64 5, .int .i64 5] 48)) arrI 50 exI arrI_flat
  rw [hz7] at I8
  have R1 := Lib.hid (R1.out.on n8)
  have R4 := Lib.hid (R4.out.on n8)
  have d8 := d6.trans (n8.mono d6.size)
  clear n7 n8 d6 X6 hz7
  unfold arrI at I8 R1 R4 d8
  generalize ((w6.alloc (.cells #[.int .i64 1, .int .i64 5, .bool false, .int .i64 5, .int .i64 5] 48)).alloc (.cells #[.int .i64 4, .string ⟨#[99, 112, 117, 123, 97, 61, 50, 125]⟩, .int .i64 1, .int .i64 5, .bool false, .int .i64 5, .int .i64 5, .int .i64 4, .string ⟨#[99, 112, 117, 123, 97, 61, 49, 44, 98, 61, 57, 125]⟩, .int .i64 1, .int .i64 5, .bool false, .int .i64 5, .int .i64 5, .int .i64 4, .string ⟨#[99, 112, 117, 123, 97, 61, 49, 125]⟩, .int .i64 1, .int .i64 5, .bool false, .int .i64 5, .int .i64 5, .int .i64 4, .string ⟨#[109, 101, 109]⟩, .int .i64 1, .int .i64 5, .bool false, .int .i64 5, .int .i64 5] 50)) = w8 at *
  refine (answer_any _ _ exQ exI w8 (hE.go d8) R4.out I8 (by decide) (by decide) (fun x hx => by cases hx) (by decide) (fun x hx => by simp [exQ] at hx; subst hx; decide) (by decide) sz_exI ok_exI).mono ?_
  rw [g6]
  rintro e w9 ⟨⟨_, rfl, r9⟩, n9⟩
  obtain ⟨a9, c9, rfl, hc9, hl9⟩ := r9
  have yR : exR.length = 2 := rfl
  have R9 : Hid (RRow w9 (.slice a9 2 c9) exR) := ⟨a9, c9, rfl, hc9, hl9⟩
  rw [yR]
  have R1 := Lib.hid (R1.out.on n9)
  have d9 := d8.trans (n9.mono d8.size)
  clear hc9 hl9 yR R4 I8 n9 d8
  obtain ⟨b1, o1, c1', hv1, hc1, hb1, hL1⟩ := R1.out.open (by simp [exL])
  cases hv1
  obtain ⟨f0, f1, f2, f3⟩ := r_at hL1 0 (by decide)
  obtain ⟨g0, g1, g2, g3⟩ := r_at hL1 1 (by decide)
  simp [exL] at f0 f1 f2 f3 g0 g1 g2 g3
  have HH1 := Lib.hid (fun W (n : Below w9.heap.size w9 W) => rtext_any B _ exL W (R1.out.on n) (hF.go (d9.trans (n.mono d9.size))) ok_exL (by decide) (fun r hr => by have := sz_exL r hr; omega) (by rw [g7]; decide))
  have HH2 := Lib.hid (fun W (_ : Below w9.heap.size w9 W) => rtext_any B (.slice none 0 0) [] W (GRow.nil W) (hF.go (d9.trans (‹Below w9.heap.size w9 W›.mono d9.size))) (fun r hr => by cases hr) (by decide) (fun r hr => by cases hr) (by rw [g8]; decide))
  have HH3 := Lib.hid (fun W (n : Below w9.heap.size w9 W) => rtext_any B _ exR W (R9.out.on n) (hF.go (d9.trans (n.mono d9.size))) ok_exR (by decide) (fun r hr => by have := sz_exR r hr; omega) (by rw [g9]; decide))
  have HH4 := Lib.hid (fun W (n : Below w9.heap.size w9 W) => rright_any _ exR W (R9.out.on n) (hE.go (d9.trans (n.mono d9.size))) (by decide) (fun r hr => by have := sz_exR r hr; omega))
  have HH5 := Lib.hid (fun W (_ : Below w9.heap.size w9 W) => (before_any ⟨3, ⟨#[97, 61, 49]⟩, 5, false⟩ ⟨4, ⟨#[]⟩, 7, true⟩ W).mono fun e w' ⟨h1, h2⟩ => And.intro h1 h2.below)
  have HH6 := Lib.hid (fun W (n : Below w9.heap.size w9 W) => same_any _ _ exL exL W (R1.out.on n) (R1.out.on n) (by decide))
  have HH7 := Lib.hid (fun W (n : Below w9.heap.size w9 W) => same_any _ _ exL exR W (R1.out.on n) (R9.out.on n) (by decide))
  simp only [g7] at HH1
  simp only [g8] at HH2
  simp only [g9] at HH3
  simp only [ga] at HH4
  simp only [gb] at HH5
  simp only [gc] at HH6
  simp only [gd] at HH7
  unfold t1 at HH1
  unfold t5 at HH3
  unfold rowC at HH5
  simp only [List.toArray] at HH5
  have hS : w9.drew.cell? ⟨b1, o1, none⟩ = some (.int .i64 3) ∧ w9.drew.cell? ⟨b1, o1 + 1, none⟩ = some (.string ⟨#[97, 61, 49]⟩) ∧ w9.drew.cell? ⟨b1, o1 + 2, none⟩ = some (.int .i64 5) ∧ w9.drew.cell? ⟨b1, o1 + 3, none⟩ = some (.bool false) ∧ w9.drew.cell? ⟨b1, o1 + 4, none⟩ = some (.int .i64 4) ∧ w9.drew.cell? ⟨b1, o1 + 4 + 1, none⟩ = some (.string ⟨#[]⟩) ∧ w9.drew.cell? ⟨b1, o1 + 4 + 2, none⟩ = some (.int .i64 7) ∧ w9.drew.cell? ⟨b1, o1 + 4 + 3, none⟩ = some (.bool true) ∧ Below w9.heap.size w9 w9.drew := ⟨f0, f1, f2, f3, g0, g1, g2, g3, (Below.refl _ _).drew⟩
  clear f0 f1 f2 f3 g0 g1 g2 g3 hL1 hb1 hc1 R1 R9
  go_wp2_with fail
  go_region_held3 (fun w' => w'.cell? ⟨b1, o1, none⟩ = some (.int .i64 3) ∧ w'.cell? ⟨b1, o1 + 1, none⟩ = some (.string ⟨#[97, 61, 49]⟩) ∧ w'.cell? ⟨b1, o1 + 2, none⟩ = some (.int .i64 5) ∧ w'.cell? ⟨b1, o1 + 3, none⟩ = some (.bool false) ∧ w'.cell? ⟨b1, o1 + 4, none⟩ = some (.int .i64 4) ∧ w'.cell? ⟨b1, o1 + 4 + 1, none⟩ = some (.string ⟨#[]⟩) ∧ w'.cell? ⟨b1, o1 + 4 + 2, none⟩ = some (.int .i64 7) ∧ w'.cell? ⟨b1, o1 + 4 + 3, none⟩ = some (.bool true) ∧ Below w9.heap.size w9 w') (first | assumption)
    (first
      | (go_at_call_of 15 (Value.slice (some ⟨b1, o1, none⟩) 2 c1); refine (HH1.out _ (al_b (by assumption))).mono ?_; rintro e wa ⟨rfl, na⟩; have hSa := al_on (by assumption) na; clear na)
      | (go_at_call_of 15 (Value.slice none 0 0); refine (HH2.out _ (al_b (by assumption))).mono ?_; rintro e wa ⟨rfl, na⟩; have hSa := al_on (by assumption) na; clear na)
      | (go_at_call_of 15 (Value.slice a9 2 c9); refine (HH3.out _ (al_b (by assumption))).mono ?_; rintro e wa ⟨rfl, na⟩; have hSa := al_on (by assumption) na; clear na)
      | (go_at_call 13; refine (HH4.out _ (al_b (by assumption))).mono ?_; rintro e wa ⟨rfl, na⟩; have hSa := al_on (by assumption) na; clear na)
      | (go_at_call 11; refine (HH5.out _ (al_b (by assumption))).mono ?_; rintro e wa ⟨rfl, na⟩; have hSa := al_on (by assumption) na; clear na)
      | (go_at_call 17; first | (refine (HH6.out _ (al_b (by assumption))).mono ?_; rintro e wa ⟨rfl, na⟩; have hSa := al_on (by assumption) na; clear na) | (refine (HH7.out _ (al_b (by assumption))).mono ?_; rintro e wa ⟨rfl, na⟩; have hSa := al_on (by assumption) na; clear na))
      | fail)
  have dz := d9.trans ((al_b hSa).mono d9.size)
  clear HH1 HH2 HH3 HH4 HH5 HH6 HH7
  go_wp2_with fail
  go_ret
  exact ⟨rfl, dz⟩

end Go.Proofs.YtidkpalckafgkaaGreatDoor.Rw
