/-
  Several texts in one: Rb1, Rb2, Rb3, Rb4, Rb5.
-/
import Derived.Test.YthkjlgjbjjjohaaGreatDoorRuA
import Derived.Test.YthkjlgjbjjjohaaGreatDoorWireB
import Derived.Test.YthkjlgjbjjjohaaGreatDoorModA
import Derived.Test.YthkjlgjbjjjohaaGreatDoorRuAlive
/-
  RulesBytes: a state's bytes, written by the program and by the document.
-/
namespace Go.Proofs.YthkjlgjbjjjohaaGreatDoor
open Go.RowKit

/-- A state's bytes. -/
def stB (e v l p f : Nat) : List UInt8 := be 4 e ++ (be 6 v ++ (be 6 l ++ (be 6 p ++ be 1 f)))
theorem stB_len (e v l p f : Nat) : (stB e v l p f).length = 23 := by simp [stB, be_length]
theorem num_step (w : World) (N g : Nat) (l : List UInt8) (n width : Nat) (hN : N ≤ w.heap.size) (hw : WrIs w (fun b => N ≤ b) g .nilIface l) (h1 : 1 ≤ width) (h8 : width ≤ 8) (hn : n < 256 ^ width) (hl : l.length ≤ 100) :
    Calls Tryz.prog 83 #[.pointer (some ⟨g, 0, none⟩), .int .i64 (n : Int), .int .i64 (width : Int)] w fun e w' => e = .returned (.tuple #[]) ∧ WrIs w' (fun b => N ≤ b) g .nilIface (l ++ be width n) ∧ Kept (fun b => N ≤ b) w w' :=
  (number_ok w _ g l n width hw h1 h8 hn (by omega)).mono fun _ _ ⟨a, b, c⟩ => ⟨a, b.mono (fun k _ h => by
    rcases h with h | ⟨h, _⟩
    · exact h
    · exact Nat.le_trans hN h), c⟩

set_option maxRecDepth 100000 in
theorem sbytes_bad (w : World) (B : Nat) (E : Nat → Addr) (he : ErrEnv w B E) (e v l p f : Int) (h : rightB e v l p f = false) :
    Calls Tryz.prog 88 #[stV e v l p f] w fun en w' => en = .returned (.tuple #[.slice none 0 0, errV (E 3)]) ∧ w.grownBy w' none := by
  have ka := World.grownBy_alloc w (.cells (stC e v l p f) 46) none
  have Ha := Lib.hid he
  clear he
  go_enter Tryz.func88, Tryz.ntmps88
  go_wp2_with fail
  refine (right_is _ _ _ _ _ _).mono ?_
  rw [h]
  rintro en w1 ⟨rfl, k1⟩
  have g3 := ((Ha.out.grown ka (by simp)).grown k1 (by simp)).form
  have kk := grown_trans ka k1
  clear h
  go_wp2_with fail
  go_region
  all_goals
    go_wp2_with fail
    go_ret2
    exact ⟨rfl, grown_drew kk⟩

set_option maxRecDepth 100000 in
set_option maxHeartbeats 1000000 in
theorem sbytes_new (w : World) (e v l p f : Nat) (h : rightB e v l p f = true) :
    Calls Tryz.prog 88 #[stV e v l p f] w fun en w' => ∃ A c, en = .returned (.tuple #[.slice A 23 c, .nilIface]) ∧ BytesAt w' A (stB e v l p f) ∧ w.grownBy w' none ∧ ∀ ad, A = some ad → w.heap.size ≤ ad.block := by
  have hr := right_yes _ _ _ _ _ h
  have i0 := fun w => (idx3 (.int .i64 (v : Int)) (.int .i64 (l : Int)) (.int .i64 (p : Int)) w).1
  have i1 := fun w => (idx3 (.int .i64 (v : Int)) (.int .i64 (l : Int)) (.int .i64 (p : Int)) w).2.1
  have i2 := fun w => (idx3 (.int .i64 (v : Int)) (.int .i64 (l : Int)) (.int .i64 (p : Int)) w).2.2
  have HR := Lib.hid hr
  clear hr
  have ka := World.grownBy_alloc w (.cells (stC e v l p f) 46) none
  have hb := Blk.new w 46 (stC e v l p f)
  go_enter Tryz.func88, Tryz.ntmps88
  go_wp2_with fail
  refine (right_is _ _ _ _ _ _).mono ?_
  rw [h]
  rintro en w1 ⟨rfl, k1⟩
  have hb1 := hb.grown k1 (by simp)
  have KW : Kept (fun _ => False) w w1 := Kept.of_grown (grown_trans ka k1) (fun _ e => by cases e)
  have hlt := hb1.lt
  clear hb ka k1 h
  go_wp2_with fail
  refine (new_ok _).mono ?_
  rintro en w2 ⟨rfl, rfl⟩
  have hW : WrIs (w1.alloc (.cells #[.nilIface, .slice none 0 0] 193)) (fun b => w1.heap.size ≤ b) w1.heap.size .nilIface [] := WrIs.new w1 (F := fun b => w1.heap.size ≤ b) (Nat.le_refl _)
  have hb2 := hb1.alloc (.cells #[.nilIface, .slice none 0 0] 193)
  have KW2 := KW.alloc (.cells #[.nilIface, .slice none 0 0] 193)
  have hz2 : w1.heap.size ≤ (w1.alloc (.cells #[.nilIface, .slice none 0 0] 193)).heap.size := by simp
  have c0 : (w1.alloc (.cells #[.nilIface, .slice none 0 0] 193)).cell? ⟨w.heap.size, 0, none⟩ = some (.int .i64 (e : Int)) := hb2.cell 0
  clear hb1 KW
  go_wp2_with fail
  generalize w1.alloc (.cells #[.nilIface, .slice none 0 0] 193) = w2 at *
  generalize w1.heap.size = N at *
  refine (num_step w2 N N [] e 4 hz2 hW (by omega) (by omega) (by have := HR.out; omega) (by simp)).mono ?_
  rintro en w3 ⟨rfl, hW3, k3⟩
  have hb3 := hb2.kept k3 (by omega)
  have hz3 := Nat.le_trans hz2 k3.size
  have KW3 := KW2.follow k3 (fun j hj h => by omega)
  have a0 := hb3.cell 0
  have a1 := hb3.cell 1
  have a2 := hb3.cell 2
  have a3 := hb3.cell 3
  have a4 := hb3.cell 4
  simp at a0 a1 a2 a3 a4
  clear c0 hb2 hz2 hW KW2 k3
  go_wp2_with fail
  refine (rounds_is _ _ _ _ _ _).mono ?_
  rintro en w4 ⟨rfl, k4⟩
  have hW4 := hW3.grown k4
  have hb4 := hb3.grown k4 (by simp)
  have hz4 := Nat.le_trans hz3 k4.size
  have KW4 := KW3.follow (Kept.of_grown (F := fun _ => False) k4 (fun _ e => by cases e)) (fun _ _ h => h)
  clear a0 a1 a2 a3 a4 hb3 hz3 hW3 KW3 k4
  go_wp2_with fail
  refine wp_loop_rounds 4 ?_
  rw [rounds_succ]
  go_wp2_with fail
  refine (num_step w4 N N _ v 6 hz4 hW4 (by omega) (by omega) (by have := HR.out; omega) (by simp [be_length])).mono ?_
  rintro en w5 ⟨rfl, hW5, k5⟩
  have hb5 := hb4.kept k5 (by omega)
  have hz5 := Nat.le_trans hz4 k5.size
  have KW5 := KW4.follow k5 (fun j hj h => by omega)
  clear hb4 hz4 hW4 KW4 k5
  go_wp2_with fail
  rw [rounds_succ]
  go_wp2_with fail
  refine (num_step w5 N N _ l 6 hz5 hW5 (by omega) (by omega) (by have := HR.out; omega) (by simp [be_length])).mono ?_
  rintro en w6 ⟨rfl, hW6, k6⟩
  have hb6 := hb5.kept k6 (by omega)
  have hz6 := Nat.le_trans hz5 k6.size
  have KW6 := KW5.follow k6 (fun j hj h => by omega)
  clear hb5 hz5 hW5 KW5 k6
  go_wp2_with fail
  rw [rounds_succ]
  go_wp2_with fail
  refine (num_step w6 N N _ p 6 hz6 hW6 (by omega) (by omega) (by have := HR.out; omega) (by simp [be_length])).mono ?_
  rintro en w7 ⟨rfl, hW7, k7⟩
  have hb7 := hb6.kept k7 (by omega)
  have hz7 := Nat.le_trans hz6 k7.size
  have KW7 := KW6.follow k7 (fun j hj h => by omega)
  have a4 : w7.cell? ⟨w.heap.size, 4, none⟩ = some (.int .i64 (f : Int)) := hb7.cell 4
  clear hb6 hz6 hW6 KW6 k7
  go_wp2_with fail
  rw [rounds_succ]
  go_wp2_with fail
  refine (num_step w7 N N _ f 1 hz7 hW7 (by omega) (by omega) (by have := HR.out; omega) (by simp [be_length])).mono ?_
  rintro en w8 ⟨rfl, hW8, k8⟩
  have KW8 := KW7.follow k8 (fun j hj h => by omega)
  obtain ⟨L, hL⟩ : ∃ L, L = stB e v l p f := ⟨_, rfl⟩
  have hW9 : WrIs w8 (fun b => N ≤ b) N .nilIface L := by
    rw [hL]
    simpa [stB, List.append_assoc] using hW8
  have hlen : L.length = 23 := by rw [hL]; exact stB_len _ _ _ _ _
  have HL := Lib.hid (And.intro hL hlen)
  clear a4 hb7 hz7 hW7 KW7 k8 hW8 hL
  go_wp2_with fail
  refine (done_ok w8 _ N L hW9 (by omega)).mono ?_
  rintro en w9 ⟨A, c, rfl, hown, k9⟩
  have HO := Lib.hid (And.intro (own_bytesAt hown) (own_low hown))
  rw [HL.out.2]
  clear hown hlen
  go_wp2_with fail
  go_ret2
  refine ⟨A, c, rfl, ?_, ?_, fun ad e => Nat.le_trans KW8.size (HO.out.2 ad e)⟩
  · rw [← HL.out.1]; exact HO.out.1
  · exact (KW8.follow (Kept.of_grown (F := fun _ => False) k9 (fun _ e => by cases e)) (fun _ _ h => h)).none_grown
theorem sbytes_ok (w : World) (e v l p f : Nat) (h : rightB e v l p f = true) :
    Calls Tryz.prog 88 #[stV e v l p f] w fun en w' => ∃ A c, en = .returned (.tuple #[.slice A 23 c, .nilIface]) ∧ BytesAt w' A (stB e v l p f) ∧ w.grownBy w' none :=
  (sbytes_new w e v l p f h).mono fun _ _ ⟨A, c, h1, h2, h3, _⟩ => ⟨A, c, h1, h2, h3⟩
end Go.Proofs.YthkjlgjbjjjohaaGreatDoor
/-
  RulesBytes: a state's bytes, by the document.
-/

namespace Go.Proofs.YthkjlgjbjjjohaaGreatDoor
open Go.RowKit

/-- What is appended to, under way: the bytes l. -/
structure OutAt (w0 w : World) (A : Option Addr) (n c : Nat) (l : List UInt8) : Prop where
  own : w.ownsRow 0 5 1 (.slice A n c) n (Lib.byteCells l)
  low : ∀ j, (Value.slice A n c).ownBlock = some j → w0.heap.size ≤ j
  kept : Kept (fun _ => False) w0 w
theorem OutAt.grown {w0 w w' : World} {A : Option Addr} {n c : Nat} {l : List UInt8} (h : OutAt w0 w A n c l) (k : w.grownBy w' none) : OutAt w0 w' A n c l :=
  ⟨own_kept h.own (Kept.of_grown (F := fun _ => False) k (fun _ e => by cases e)) (fun _ _ h => h), h.low, h.kept.follow (Kept.of_grown (F := fun _ => False) k (fun _ e => by cases e)) (fun _ _ h => h)⟩
theorem OutAt.app {w0 w w' : World} {A A' : Option Addr} {n c m c' : Nat} {l x : List UInt8} (h : OutAt w0 w A n c l) (hown : w'.ownsRow 0 5 1 (.slice A' (n + m) c') (n + m) (Lib.byteCells l ++ Lib.byteCells x)) (hg : w.grownBy w' (Value.slice A n c).ownBlock)
    (hat : (Value.slice A' (n + m) c').ownBlock = (Value.slice A n c).ownBlock ∨ (Value.slice A' (n + m) c').ownBlock = some w.heap.size) : OutAt w0 w' A' (n + m) c' (l ++ x) :=
  ⟨by rw [Lib.byteCells_append]; exact hown, fun j hj => by
    rcases hat with h1 | h1
    · exact h.low j (h1.symm.trans hj)
    · have := Option.some.inj (h1.symm.trans hj); have := h.kept.size; omega, h.kept.follow (Kept.of_grown (F := fun j => (Value.slice A n c).ownBlock = some j) hg (fun _ e => e)) (fun j hj e => by have := h.low j e; omega)⟩

end Go.Proofs.YthkjlgjbjjjohaaGreatDoor
/-
  RulesBytes: bytes read as a state, by the program.
-/
namespace Go.Proofs.YthkjlgjbjjjohaaGreatDoor
open Go.RowKit

/-- What reading a state from bytes answers: the error's number. -/
def rdE (d : Nat) (n1 n2 n3 n4 n5 : Nat) : Nat := if d ≠ 0 then d else if rightB n1 n2 n3 n4 n5 = true then 0 else 4
/-- .. and the state. -/
def rdV (d : Nat) (n1 n2 n3 n4 n5 : Nat) : Array Value := if rdE d n1 n2 n3 n4 n5 = 0 then stC n1 n2 n3 n4 n5 else stC 0 0 0 0 0
theorem ErrEnv.keptL {w w' : World} {F : Nat → Prop} {B : Nat} {E : Nat → Addr} (h : ErrEnv w B E) (hk : Kept F w w') (hB : B ≤ w.heap.size) (hF : ∀ k, F k → B ≤ k) : ErrEnv w' B E := h.below (hk.below hB hF) (Nat.le_refl _)
theorem Kept.row5 {w0 w : World} {F : Nat → Prop} (h : Kept F w0 w) {g : Nat} (hg : F g ∨ w0.heap.size ≤ g) (x0 x1 x2 x3 x4 : Value) : Kept F w0 (((((w.setCell ⟨g, 0, none⟩ x0).setCell ⟨g, 1, none⟩ x1).setCell ⟨g, 2, none⟩ x2).setCell ⟨g, 3, none⟩ x3).setCell ⟨g, 4, none⟩ x4) :=
  ((((h.set (p := ⟨g, 0, none⟩) hg _).set (p := ⟨g, 1, none⟩) hg _).set (p := ⟨g, 2, none⟩) hg _).set (p := ⟨g, 3, none⟩) hg _).set (p := ⟨g, 4, none⟩) hg _
structure StP (w0 w : World) (tb sb g s : Nat) (E : Nat → Addr) (cs : Array Value) (e : Nat) (l : List UInt8) : Prop where
  tgt : Blk w tb 46 (stC 0 0 0 0 0)
  st : Blk w sb 46 cs
  rd : RdIs w g s (evOf E e) l
  kept : Kept (fun _ => False) w0 w
  dist : tb ≠ g ∧ sb ≠ g ∧ tb ≠ sb ∧ s ≠ sb ∧ w0.heap.size ≤ tb ∧ w0.heap.size ≤ sb ∧ w0.heap.size ≤ g
section
variable {w0 w w' : World} {tb sb g s : Nat} {E : Nat → Addr} {cs : Array Value} {e e1 : Nat} {l l1 : List UInt8}
theorem StP.num (h : StP w0 w tb sb g s E cs e l) (h1 : RdIs w' g s (evOf E e1) l1) (k : w.grownBy w' (some g)) : StP w0 w' tb sb g s E cs e1 l1 :=
  ⟨h.tgt.grown k (fun e => h.dist.1 (Option.some.inj e)), h.st.grown k (fun e => h.dist.2.1 (Option.some.inj e)), h1, h.kept.follow (Kept.of_grown (F := fun j => j = g) k (fun j e => (Option.some.inj e).symm)) (fun j hj e => by have := h.dist; omega), h.dist⟩
theorem StP.store (h : StP w0 w tb sb g s E cs e l) (i : Nat) (x : Value) : StP w0 (w.setCell ⟨sb, i, none⟩ x) tb sb g s E (cs.setIfInBounds i x) e l := by
  have k : Kept (fun j => j = sb) w (w.setCell ⟨sb, i, none⟩ x) := (Kept.refl (fun j => j = sb) w).set (p := ⟨sb, i, none⟩) (.inl rfl) _
  exact ⟨h.tgt.kept k h.dist.2.2.1, h.st.set i x, h.rd.kept k (fun e => h.dist.2.1 e.symm) h.dist.2.2.2.1, h.kept.follow k (fun j hj e => by have := h.dist; omega), h.dist⟩
end

set_option maxRecDepth 100000 in
set_option maxHeartbeats 4000000 in
theorem read_is (w : World) (B : Nat) (hB : B ≤ w.heap.size) (E : Nat → Addr) (he : ErrEnv w B E) (A : Option Addr) (n c : Nat) (bs : List UInt8) (hn : bs.length = n) (hb : BytesAt w A bs) (hm : n ≤ 1000) (n1 e1 : Nat) (l1 : List UInt8) (h1 : pNum 4 0 bs = (n1, e1, l1)) (n2 e2 : Nat) (l2 : List UInt8) (h2 : pNum 6 e1 l1 = (n2, e2, l2)) (n3 e3 : Nat) (l3 : List UInt8) (h3 : pNum 6 e2 l2 = (n3, e3, l3)) (n4 e4 : Nat) (l4 : List UInt8) (h4 : pNum 6 e3 l3 = (n4, e4, l4)) (n5 e5 : Nat) (l5 : List UInt8) (h5 : pNum 1 e4 l4 = (n5, e5, l5)) (d : Nat) (h6 : pDone e5 l5 = d) (V : Array Value) (hV : rdV d n1 n2 n3 n4 n5 = V) (R : Value) (hR : evOf E (rdE d n1 n2 n3 n4 n5) = R) :
    Calls Tryz.prog 37 #[.slice A n c] w fun en w' => en = .returned (.tuple #[.agg V, R]) ∧ w.grownBy w' none := by
  have HN := Lib.hid (And.intro hn (And.intro hb hm))
  have HE := Lib.hid he
  have H1 := Lib.hid h1
  have H2 := Lib.hid h2
  have H3 := Lib.hid h3
  have H4 := Lib.hid h4
  have H5 := Lib.hid h5
  have H6 := Lib.hid h6
  have HV := Lib.hid hV
  have HR := Lib.hid hR
  clear hn hb hm h1 h2 h3 h4 h5 h6 hV hR he
  have hT := Blk.new w 46 (stC 0 0 0 0 0)
  have KT : Kept (fun _ => False) w (w.alloc (.cells (stC 0 0 0 0 0) 46)) := (Kept.refl (fun _ => False) w).alloc _
  have zT : (w.alloc (.cells (stC 0 0 0 0 0) 46)).heap.size = w.heap.size + 1 := by simp
  go_enter Tryz.func37, Tryz.ntmps37
  go_wp2_with fail
  refine (reader_new _ A n c bs HN.out.1 (HN.out.2.1.kept' KT (fun _ _ _ h => h)) (by have := HN.out.2.2; omega)).mono ?_
  rintro en w1 ⟨g, s, rfl, hr1, hg1, hg2, hs1, hs2, k1⟩
  have hT1 := hT.grown k1 (by simp)
  have K1 := KT.follow (Kept.of_grown (F := fun _ => False) k1 (fun _ e => by cases e)) (fun _ _ h => h)
  have kS : Kept (fun _ => False) w1 (w1.alloc (.cells (stC 0 0 0 0 0) 46)) := (Kept.refl (fun _ => False) w1).alloc _
  have hd : w.heap.size ≠ g ∧ w1.heap.size ≠ g ∧ w.heap.size ≠ w1.heap.size ∧ s ≠ w1.heap.size ∧ w.heap.size ≤ w.heap.size ∧ w.heap.size ≤ w1.heap.size ∧ w.heap.size ≤ g := by omega
  have S0 : Hid (StP w (w1.alloc (.cells (stC 0 0 0 0 0) 46)) w.heap.size w1.heap.size g s E (stC 0 0 0 0 0) 0 bs) := Lib.hid ⟨hT1.alloc _, Blk.new w1 46 (stC 0 0 0 0 0), hr1.kept kS (fun h => h) (fun h => h), K1.follow kS (fun _ _ h => h), hd⟩
  have hgB : B ≤ g := Nat.le_trans hB hd.2.2.2.2.2.2
  clear hT KT zT hr1 hg1 hg2 hs1 hs2 k1 hT1 K1 kS hd
  go_wp2_with fail
  generalize w1.alloc (.cells (stC 0 0 0 0 0) 46) = v0 at *
  generalize w1.heap.size = sb at *
  refine (rnum_is v0 B g s E 0 bs 4 n1 e1 l1 H1.out S0.out.rd ((HE.out.vars [0, 1] (by decide)).kept S0.out.kept (fun _ h => h.elim)) hgB).mono ?_
  rintro en u0 ⟨rfl, hr, k⟩
  have T0 := Lib.hid (S0.out.num hr k)
  have fz : u0.frozen? ⟨sb, 0, none⟩ = false := T0.out.st.frozen 0
  have cz : u0.cell? ⟨sb, 0, none⟩ = some (.int .i64 0) := T0.out.st.cell 0
  have S1 : Hid (StP w (u0.setCell ⟨sb, 0, none⟩ (.int .i64 (n1 : Int))) w.heap.size sb g s E #[.int .i64 (n1 : Int), .int .i64 0, .int .i64 0, .int .i64 0, .int .i64 0] e1 l1) := Lib.hid (by simpa using T0.out.store 0 (.int .i64 (n1 : Int)))
  clear hr k
  go_wp2_with fail
  clear fz cz
  generalize u0.setCell ⟨sb, 0, none⟩ (.int .i64 (n1 : Int)) = v1 at *
  refine (rnum_is v1 B g s E e1 l1 6 n2 e2 l2 H2.out S1.out.rd ((HE.out.vars [0, 1] (by decide)).kept S1.out.kept (fun _ h => h.elim)) hgB).mono ?_
  rintro en u1 ⟨rfl, hr, k⟩
  have T1 := Lib.hid (S1.out.num hr k)
  have fz : u1.frozen? ⟨sb, 1, none⟩ = false := T1.out.st.frozen 1
  have cz : u1.cell? ⟨sb, 1, none⟩ = some (.int .i64 0) := T1.out.st.cell 1
  have S2 : Hid (StP w (u1.setCell ⟨sb, 1, none⟩ (.int .i64 (n2 : Int))) w.heap.size sb g s E #[.int .i64 (n1 : Int), .int .i64 (n2 : Int), .int .i64 0, .int .i64 0, .int .i64 0] e2 l2) := Lib.hid (by simpa using T1.out.store 1 (.int .i64 (n2 : Int)))
  clear hr k
  go_wp2_with fail
  clear fz cz
  generalize u1.setCell ⟨sb, 1, none⟩ (.int .i64 (n2 : Int)) = v2 at *
  refine (rnum_is v2 B g s E e2 l2 6 n3 e3 l3 H3.out S2.out.rd ((HE.out.vars [0, 1] (by decide)).kept S2.out.kept (fun _ h => h.elim)) hgB).mono ?_
  rintro en u2 ⟨rfl, hr, k⟩
  have T2 := Lib.hid (S2.out.num hr k)
  have fz : u2.frozen? ⟨sb, 2, none⟩ = false := T2.out.st.frozen 2
  have cz : u2.cell? ⟨sb, 2, none⟩ = some (.int .i64 0) := T2.out.st.cell 2
  have S3 : Hid (StP w (u2.setCell ⟨sb, 2, none⟩ (.int .i64 (n3 : Int))) w.heap.size sb g s E #[.int .i64 (n1 : Int), .int .i64 (n2 : Int), .int .i64 (n3 : Int), .int .i64 0, .int .i64 0] e3 l3) := Lib.hid (by simpa using T2.out.store 2 (.int .i64 (n3 : Int)))
  clear hr k
  go_wp2_with fail
  clear fz cz
  generalize u2.setCell ⟨sb, 2, none⟩ (.int .i64 (n3 : Int)) = v3 at *
  refine (rnum_is v3 B g s E e3 l3 6 n4 e4 l4 H4.out S3.out.rd ((HE.out.vars [0, 1] (by decide)).kept S3.out.kept (fun _ h => h.elim)) hgB).mono ?_
  rintro en u3 ⟨rfl, hr, k⟩
  have T3 := Lib.hid (S3.out.num hr k)
  have fz : u3.frozen? ⟨sb, 3, none⟩ = false := T3.out.st.frozen 3
  have cz : u3.cell? ⟨sb, 3, none⟩ = some (.int .i64 0) := T3.out.st.cell 3
  have S4 : Hid (StP w (u3.setCell ⟨sb, 3, none⟩ (.int .i64 (n4 : Int))) w.heap.size sb g s E #[.int .i64 (n1 : Int), .int .i64 (n2 : Int), .int .i64 (n3 : Int), .int .i64 (n4 : Int), .int .i64 0] e4 l4) := Lib.hid (by simpa using T3.out.store 3 (.int .i64 (n4 : Int)))
  clear hr k
  go_wp2_with fail
  clear fz cz
  generalize u3.setCell ⟨sb, 3, none⟩ (.int .i64 (n4 : Int)) = v4 at *
  refine (rnum_is v4 B g s E e4 l4 1 n5 e5 l5 H5.out S4.out.rd ((HE.out.vars [0, 1] (by decide)).kept S4.out.kept (fun _ h => h.elim)) hgB).mono ?_
  rintro en u4 ⟨rfl, hr, k⟩
  have T4 := Lib.hid (S4.out.num hr k)
  have fz : u4.frozen? ⟨sb, 4, none⟩ = false := T4.out.st.frozen 4
  have cz : u4.cell? ⟨sb, 4, none⟩ = some (.int .i64 0) := T4.out.st.cell 4
  have S5 : Hid (StP w (u4.setCell ⟨sb, 4, none⟩ (.int .i64 (n5 : Int))) w.heap.size sb g s E #[.int .i64 (n1 : Int), .int .i64 (n2 : Int), .int .i64 (n3 : Int), .int .i64 (n4 : Int), .int .i64 (n5 : Int)] e5 l5) := Lib.hid (by simpa using T4.out.store 4 (.int .i64 (n5 : Int)))
  clear hr k
  go_wp2_with fail
  clear fz cz
  generalize u4.setCell ⟨sb, 4, none⟩ (.int .i64 (n5 : Int)) = v5 at *
  refine (rdone_is v5 B g s E e5 l5 d H6.out S5.out.rd ((HE.out.vars [2] (by decide)).kept S5.out.kept (fun _ h => h.elim))).mono ?_
  rintro en w6 ⟨rfl, hw6⟩
  subst hw6
  by_cases hd0 : d = 0
  · subst hd0
    have hnil : evOf E 0 = .nilIface := rfl
    rw [hnil]
    have a0 := S5.out.st.cell 0
    have a1 := S5.out.st.cell 1
    have a2 := S5.out.st.cell 2
    have a3 := S5.out.st.cell 3
    have a4 := S5.out.st.cell 4
    simp at a0 a1 a2 a3 a4
    go_wp2_with fail
    refine (right_is _ _ _ _ _ _).mono ?_
    rintro en w7 ⟨rfl, k7⟩
    have HT := Lib.hid (S5.out.tgt.grown k7 (by simp))
    have HS := Lib.hid (S5.out.st.grown k7 (by simp))
    have HK := Lib.hid (S5.out.kept.follow (Kept.of_grown (F := fun _ => False) k7 (fun _ e => by cases e)) (fun _ _ h => h))
    clear a0 a1 a2 a3 a4 k7
    have z0 : w7.frozen? ⟨w.heap.size, 0, none⟩ = false := HT.out.frozen 0
    have z1 : w7.frozen? ⟨w.heap.size, 1, none⟩ = false := HT.out.frozen 1
    have z2 : w7.frozen? ⟨w.heap.size, 2, none⟩ = false := HT.out.frozen 2
    have z3 : w7.frozen? ⟨w.heap.size, 3, none⟩ = false := HT.out.frozen 3
    have z4 : w7.frozen? ⟨w.heap.size, 4, none⟩ = false := HT.out.frozen 4
    have y0 : w7.cell? ⟨w.heap.size, 0, none⟩ = some (.int .i64 0) := HT.out.cell 0
    have y1 : w7.cell? ⟨w.heap.size, 1, none⟩ = some (.int .i64 0) := HT.out.cell 1
    have y2 : w7.cell? ⟨w.heap.size, 2, none⟩ = some (.int .i64 0) := HT.out.cell 2
    have y3 : w7.cell? ⟨w.heap.size, 3, none⟩ = some (.int .i64 0) := HT.out.cell 3
    have y4 : w7.cell? ⟨w.heap.size, 4, none⟩ = some (.int .i64 0) := HT.out.cell 4
    cases hright : rightB (n1 : Int) (n2 : Int) (n3 : Int) (n4 : Int) (n5 : Int)
    · have HQ := Lib.hid (show rdE 0 n1 n2 n3 n4 n5 = 4 by simp [rdE, hright])
      clear hright
      have g3 : w7.cell? ⟨1, 0, none⟩ = some (errV (E 3)) := (HE.out.keptL HK.out hB (fun _ h => h.elim)).form
      have hfar : ¬ (1 = w.heap.size) := by have h := (HE.out.var 3 (by omega)).2; have h2 : 1 < B := h; omega
      have hfar2 : ¬ (w.heap.size = 1) := fun h => hfar h.symm
      go_wp2_with fail
      have HTd := Lib.hid (HT.out.drew)
      go_region
      all_goals
        go_wp2_with fail
        refine bodyPost_ret (results_cell_tmp rfl _ _ _ ⟨w.heap.size, 0, none⟩ _ rfl (load5 (HTd.out.set5 _ _ _ _ _))) rfl ?_
        refine ⟨?_, (HK.out.drew.row5 (.inr (Nat.le_refl _)) _ _ _ _ _).none_grown⟩
        rw [← HV.out, ← HR.out, rdV, HQ.out, if_neg (by omega)]; rfl
    · have HQ := Lib.hid (show rdE 0 n1 n2 n3 n4 n5 = 0 by simp [rdE, hright])
      have a0 := HS.out.cell 0
      have a1 := HS.out.cell 1
      have a2 := HS.out.cell 2
      have a3 := HS.out.cell 3
      have a4 := HS.out.cell 4
      simp at a0 a1 a2 a3 a4
      clear hright
      go_wp2_with fail
      refine bodyPost_ret (results_cell_tmp rfl _ _ _ ⟨w.heap.size, 0, none⟩ _ rfl (load5 (HT.out.set5 _ _ _ _ _))) rfl ?_
      refine ⟨?_, (HK.out.row5 (.inr (Nat.le_refl _)) _ _ _ _ _).none_grown⟩
      rw [← HV.out, ← HR.out, rdV, HQ.out, if_pos rfl]; rfl
  · obtain ⟨k, rfl⟩ : ∃ k, d = k + 1 := ⟨d - 1, by omega⟩
    have hev : evOf E (k + 1) = errV (E k) := rfl
    rw [hev]
    have HT := Lib.hid S5.out.tgt
    have HK := Lib.hid S5.out.kept
    have HQ := Lib.hid (show rdE (k + 1) n1 n2 n3 n4 n5 = k + 1 by simp [rdE])
    clear hd0 hev
    have z0 : w6.frozen? ⟨w.heap.size, 0, none⟩ = false := HT.out.frozen 0
    have z1 : w6.frozen? ⟨w.heap.size, 1, none⟩ = false := HT.out.frozen 1
    have z2 : w6.frozen? ⟨w.heap.size, 2, none⟩ = false := HT.out.frozen 2
    have z3 : w6.frozen? ⟨w.heap.size, 3, none⟩ = false := HT.out.frozen 3
    have z4 : w6.frozen? ⟨w.heap.size, 4, none⟩ = false := HT.out.frozen 4
    have y0 : w6.cell? ⟨w.heap.size, 0, none⟩ = some (.int .i64 0) := HT.out.cell 0
    have y1 : w6.cell? ⟨w.heap.size, 1, none⟩ = some (.int .i64 0) := HT.out.cell 1
    have y2 : w6.cell? ⟨w.heap.size, 2, none⟩ = some (.int .i64 0) := HT.out.cell 2
    have y3 : w6.cell? ⟨w.heap.size, 3, none⟩ = some (.int .i64 0) := HT.out.cell 3
    have y4 : w6.cell? ⟨w.heap.size, 4, none⟩ = some (.int .i64 0) := HT.out.cell 4
    go_wp2_with fail
    refine bodyPost_ret (results_cell_tmp rfl _ _ _ ⟨w.heap.size, 0, none⟩ _ rfl (load5 (HT.out.set5 _ _ _ _ _))) rfl ?_
    refine ⟨?_, (HK.out.row5 (.inr (Nat.le_refl _)) _ _ _ _ _).none_grown⟩
    rw [← HV.out, ← HR.out, rdV, HQ.out, if_neg (by omega)]; rfl
end Go.Proofs.YthkjlgjbjjjohaaGreatDoor
/-
  RulesBytes: bytes read as a state, by the document.
-/
namespace Go.Proofs.YthkjlgjbjjjohaaGreatDoor
open Go.RowKit

structure StR (w0 w : World) (tb sb m : Nat) (A : Option Addr) (c : Nat) (b : List UInt8) (cs : Array Value) (e : Nat) (l : List UInt8) : Prop where
  tgt : Blk w tb 38 (stC 0 0 0 0 0)
  st : Blk w sb 38 cs
  md : MdEnd w m A c b e l
  kept : Kept (fun _ => False) w0 w
  dist : tb ≠ m ∧ sb ≠ m ∧ tb ≠ sb ∧ w0.heap.size ≤ tb ∧ w0.heap.size ≤ sb ∧ w0.heap.size ≤ m
  ab : ∀ ad, A = some ad → b ≠ [] → ad.block < w0.heap.size
section
variable {w0 w w' : World} {tb sb m : Nat} {A : Option Addr} {c : Nat} {b : List UInt8} {cs : Array Value} {e e1 : Nat} {l l1 : List UInt8}
theorem StR.num (h : StR w0 w tb sb m A c b cs e l) (h1 : MdEnd w' m A c b e1 l1) (k : Kept (fun j => j = m) w w') : StR w0 w' tb sb m A c b cs e1 l1 :=
  ⟨h.tgt.kept k h.dist.1, h.st.kept k h.dist.2.1, h1, h.kept.follow k (fun j hj e => by have := h.dist; omega), h.dist, h.ab⟩
theorem StR.store (h : StR w0 w tb sb m A c b cs e l) (i : Nat) (x : Value) : StR w0 (w.setCell ⟨sb, i, none⟩ x) tb sb m A c b (cs.setIfInBounds i x) e l := by
  have k : Kept (fun j => j = sb) w (w.setCell ⟨sb, i, none⟩ x) := (Kept.refl (fun j => j = sb) w).set (p := ⟨sb, i, none⟩) (.inl rfl) _
  obtain ⟨kk, hm, hd⟩ := h.md
  exact ⟨h.tgt.kept k h.dist.2.2.1, h.st.set i x, ⟨kk, hm.kept k (fun e => h.dist.2.1 e.symm) (fun ad e hne hf => by have := h.ab ad e hne; have := h.dist; have e2 : ad.block = sb := hf; omega), hd⟩, h.kept.follow k (fun j hj e => by have := h.dist; omega), h.dist, h.ab⟩
end

set_option maxRecDepth 100000 in
set_option maxHeartbeats 4000000 in
theorem rread_is (w : World) (A : Option Addr) (n c : Nat) (bs : List UInt8) (hn : bs.length = n) (hb : BytesAt w A bs) (hm : n ≤ 1000) (hc : n ≤ c) (n1 e1 : Nat) (l1 : List UInt8) (h1 : pNum 4 0 bs = (n1, e1, l1)) (n2 e2 : Nat) (l2 : List UInt8) (h2 : pNum 6 e1 l1 = (n2, e2, l2)) (n3 e3 : Nat) (l3 : List UInt8) (h3 : pNum 6 e2 l2 = (n3, e3, l3)) (n4 e4 : Nat) (l4 : List UInt8) (h4 : pNum 6 e3 l3 = (n4, e4, l4)) (n5 e5 : Nat) (l5 : List UInt8) (h5 : pNum 1 e4 l4 = (n5, e5, l5)) (d : Nat) (h6 : pDone e5 l5 = d) (V : Array Value) (hV : rdV d n1 n2 n3 n4 n5 = V) (R : Value) (hR : .int .i64 ((rdE d n1 n2 n3 n4 n5 : Nat) : Int) = R) :
    Calls Tryz.prog 21 #[.slice A n c] w fun en w' => en = .returned (.tuple #[.agg V, R]) ∧ w.grownBy w' none := by
  have HN := Lib.hid (And.intro hn (And.intro hb hm))
  have HC := Lib.hid hc
  have H1 := Lib.hid h1
  have H2 := Lib.hid h2
  have H3 := Lib.hid h3
  have H4 := Lib.hid h4
  have H5 := Lib.hid h5
  have H6 := Lib.hid h6
  have HV := Lib.hid hV
  have HR := Lib.hid hR
  clear hn hb hm h1 h2 h3 h4 h5 h6 hV hR hc
  have hT := Blk.new w 38 (stC 0 0 0 0 0)
  have KT : Kept (fun _ => False) w (w.alloc (.cells (stC 0 0 0 0 0) 38)) := (Kept.refl (fun _ => False) w).alloc _
  have zT : (w.alloc (.cells (stC 0 0 0 0 0) 38)).heap.size = w.heap.size + 1 := by simp
  go_enter Tryz.func21, Tryz.ntmps21
  go_wp2_with fail
  have kM : Kept (fun _ => False) (w.alloc (.cells (stC 0 0 0 0 0) 38)) ((w.alloc (.cells (stC 0 0 0 0 0) 38)).alloc (.cells #[.slice A n c, .int .i64 0, .int .i64 0] 113)) := (Kept.refl (fun _ => False) _).alloc _
  have hM := Blk.new (w.alloc (.cells (stC 0 0 0 0 0) 38)) 113 #[.slice A n c, .int .i64 0, .int .i64 0]
  have zM : ((w.alloc (.cells (stC 0 0 0 0 0) 38)).alloc (.cells #[.slice A n c, .int .i64 0, .int .i64 0] 113)).heap.size = w.heap.size + 1 + 1 := by simp
  have hT2 := hT.alloc (.cells #[.slice A n c, .int .i64 0, .int .i64 0] 113)
  have K2 := KT.follow kM (fun _ _ h => h)
  rw [zT] at hM
  have K3 := K2.alloc (.cells (stC 0 0 0 0 0) 38)
  have hS := Blk.new ((w.alloc (.cells (stC 0 0 0 0 0) 38)).alloc (.cells #[.slice A n c, .int .i64 0, .int .i64 0] 113)) 38 (stC 0 0 0 0 0)
  rw [zM] at hS
  have hd : w.heap.size ≠ w.heap.size + 1 ∧ w.heap.size + 1 + 1 ≠ w.heap.size + 1 ∧ w.heap.size ≠ w.heap.size + 1 + 1 ∧ w.heap.size ≤ w.heap.size ∧ w.heap.size ≤ w.heap.size + 1 + 1 ∧ w.heap.size ≤ w.heap.size + 1 := by omega
  have S0 : Hid (StR w (((w.alloc (.cells (stC 0 0 0 0 0) 38)).alloc (.cells #[.slice A n c, .int .i64 0, .int .i64 0] 113)).alloc (.cells (stC 0 0 0 0 0) 38)) w.heap.size (w.heap.size + 1 + 1) (w.heap.size + 1) A c bs (stC 0 0 0 0 0) 0 bs) := Lib.hid ⟨hT2.alloc _, hS, ⟨0, ⟨by rw [HN.out.1]; exact hM.alloc _, HN.out.2.1.kept' K3 (fun _ _ _ h => h), Nat.zero_le _, by rw [HN.out.1]; exact HC.out, fun ad e hne => by have := HN.out.2.1.lt ad e hne; omega⟩, fun _ => rfl⟩, K3, hd, fun ad e hne => HN.out.2.1.lt ad e hne⟩
  clear hT KT zT kM hM zM hT2 K2 hd K3 hS
  generalize ((w.alloc (.cells (stC 0 0 0 0 0) 38)).alloc (.cells #[.slice A n c, .int .i64 0, .int .i64 0] 113)).alloc (.cells (stC 0 0 0 0 0) 38) = v0 at *
  generalize w.heap.size + 1 = m at *
  generalize m + 1 = sb at *
  refine (mnum_is v0 m A c bs 0 bs 4 n1 e1 l1 H1.out (by rw [HN.out.1]; have := HN.out.2.2; omega) S0.out.md).mono ?_
  rintro en u0 ⟨rfl, hr, k⟩
  have T0 := Lib.hid (S0.out.num hr k)
  have fz : u0.frozen? ⟨sb, 0, none⟩ = false := T0.out.st.frozen 0
  have cz : u0.cell? ⟨sb, 0, none⟩ = some (.int .i64 0) := T0.out.st.cell 0
  have S1 : Hid (StR w (u0.setCell ⟨sb, 0, none⟩ (.int .i64 (n1 : Int))) w.heap.size sb m A c bs #[.int .i64 (n1 : Int), .int .i64 0, .int .i64 0, .int .i64 0, .int .i64 0] e1 l1) := Lib.hid (by simpa using T0.out.store 0 (.int .i64 (n1 : Int)))
  clear hr k
  go_wp2_with fail
  clear fz cz
  generalize u0.setCell ⟨sb, 0, none⟩ (.int .i64 (n1 : Int)) = v1 at *
  refine (mnum_is v1 m A c bs e1 l1 6 n2 e2 l2 H2.out (by rw [HN.out.1]; have := HN.out.2.2; omega) S1.out.md).mono ?_
  rintro en u1 ⟨rfl, hr, k⟩
  have T1 := Lib.hid (S1.out.num hr k)
  have fz : u1.frozen? ⟨sb, 1, none⟩ = false := T1.out.st.frozen 1
  have cz : u1.cell? ⟨sb, 1, none⟩ = some (.int .i64 0) := T1.out.st.cell 1
  have S2 : Hid (StR w (u1.setCell ⟨sb, 1, none⟩ (.int .i64 (n2 : Int))) w.heap.size sb m A c bs #[.int .i64 (n1 : Int), .int .i64 (n2 : Int), .int .i64 0, .int .i64 0, .int .i64 0] e2 l2) := Lib.hid (by simpa using T1.out.store 1 (.int .i64 (n2 : Int)))
  clear hr k
  go_wp2_with fail
  clear fz cz
  generalize u1.setCell ⟨sb, 1, none⟩ (.int .i64 (n2 : Int)) = v2 at *
  refine (mnum_is v2 m A c bs e2 l2 6 n3 e3 l3 H3.out (by rw [HN.out.1]; have := HN.out.2.2; omega) S2.out.md).mono ?_
  rintro en u2 ⟨rfl, hr, k⟩
  have T2 := Lib.hid (S2.out.num hr k)
  have fz : u2.frozen? ⟨sb, 2, none⟩ = false := T2.out.st.frozen 2
  have cz : u2.cell? ⟨sb, 2, none⟩ = some (.int .i64 0) := T2.out.st.cell 2
  have S3 : Hid (StR w (u2.setCell ⟨sb, 2, none⟩ (.int .i64 (n3 : Int))) w.heap.size sb m A c bs #[.int .i64 (n1 : Int), .int .i64 (n2 : Int), .int .i64 (n3 : Int), .int .i64 0, .int .i64 0] e3 l3) := Lib.hid (by simpa using T2.out.store 2 (.int .i64 (n3 : Int)))
  clear hr k
  go_wp2_with fail
  clear fz cz
  generalize u2.setCell ⟨sb, 2, none⟩ (.int .i64 (n3 : Int)) = v3 at *
  refine (mnum_is v3 m A c bs e3 l3 6 n4 e4 l4 H4.out (by rw [HN.out.1]; have := HN.out.2.2; omega) S3.out.md).mono ?_
  rintro en u3 ⟨rfl, hr, k⟩
  have T3 := Lib.hid (S3.out.num hr k)
  have fz : u3.frozen? ⟨sb, 3, none⟩ = false := T3.out.st.frozen 3
  have cz : u3.cell? ⟨sb, 3, none⟩ = some (.int .i64 0) := T3.out.st.cell 3
  have S4 : Hid (StR w (u3.setCell ⟨sb, 3, none⟩ (.int .i64 (n4 : Int))) w.heap.size sb m A c bs #[.int .i64 (n1 : Int), .int .i64 (n2 : Int), .int .i64 (n3 : Int), .int .i64 (n4 : Int), .int .i64 0] e4 l4) := Lib.hid (by simpa using T3.out.store 3 (.int .i64 (n4 : Int)))
  clear hr k
  go_wp2_with fail
  clear fz cz
  generalize u3.setCell ⟨sb, 3, none⟩ (.int .i64 (n4 : Int)) = v4 at *
  refine (mnum_is v4 m A c bs e4 l4 1 n5 e5 l5 H5.out (by rw [HN.out.1]; have := HN.out.2.2; omega) S4.out.md).mono ?_
  rintro en u4 ⟨rfl, hr, k⟩
  have T4 := Lib.hid (S4.out.num hr k)
  have fz : u4.frozen? ⟨sb, 4, none⟩ = false := T4.out.st.frozen 4
  have cz : u4.cell? ⟨sb, 4, none⟩ = some (.int .i64 0) := T4.out.st.cell 4
  have S5 : Hid (StR w (u4.setCell ⟨sb, 4, none⟩ (.int .i64 (n5 : Int))) w.heap.size sb m A c bs #[.int .i64 (n1 : Int), .int .i64 (n2 : Int), .int .i64 (n3 : Int), .int .i64 (n4 : Int), .int .i64 (n5 : Int)] e5 l5) := Lib.hid (by simpa using T4.out.store 4 (.int .i64 (n5 : Int)))
  clear hr k
  go_wp2_with fail
  clear fz cz
  generalize u4.setCell ⟨sb, 4, none⟩ (.int .i64 (n5 : Int)) = v5 at *
  obtain ⟨kk, hmd, hdd⟩ := S5.out.md
  have hd2 : pDone e5 (bs.drop kk) = d := by
    rw [← H6.out]
    by_cases h0 : e5 = 0
    · rw [hdd h0]
    · unfold pDone; rw [if_neg (fun h => h0 h.1), if_neg (fun h => h0 h.1)]
  have HD2 := Lib.hid hd2
  have HMD := Lib.hid hmd
  clear hd2 hmd hdd
  refine (mdone v5 m A c bs kk e5 d HD2.out HMD.out (by rw [HN.out.1]; have := HN.out.2.2; omega)).mono ?_
  rintro en w6 ⟨rfl, k6⟩
  have K6 := Lib.hid k6
  clear k6
  by_cases hd0 : d = 0
  · subst hd0
    have hz : (((0 : Nat) : Int) != 0) = false := rfl
    skip
    have a0 := (S5.out.st.kept K6.out (fun h => h)).cell 0
    have a1 := (S5.out.st.kept K6.out (fun h => h)).cell 1
    have a2 := (S5.out.st.kept K6.out (fun h => h)).cell 2
    have a3 := (S5.out.st.kept K6.out (fun h => h)).cell 3
    have a4 := (S5.out.st.kept K6.out (fun h => h)).cell 4
    simp at a0 a1 a2 a3 a4
    go_wp2_with fail
    refine (refRight_is _ _ _ _ _ _).mono ?_
    rintro en w7 ⟨rfl, k7⟩
    have HT := Lib.hid ((S5.out.tgt.kept K6.out (fun h => h)).grown k7 (by simp))
    have HS := Lib.hid ((S5.out.st.kept K6.out (fun h => h)).grown k7 (by simp))
    have HK := Lib.hid ((S5.out.kept.follow K6.out (fun _ _ h => h)).follow (Kept.of_grown (F := fun _ => False) k7 (fun _ e => by cases e)) (fun _ _ h => h))
    clear a0 a1 a2 a3 a4 k7
    have z0 : w7.frozen? ⟨w.heap.size, 0, none⟩ = false := HT.out.frozen 0
    have z1 : w7.frozen? ⟨w.heap.size, 1, none⟩ = false := HT.out.frozen 1
    have z2 : w7.frozen? ⟨w.heap.size, 2, none⟩ = false := HT.out.frozen 2
    have z3 : w7.frozen? ⟨w.heap.size, 3, none⟩ = false := HT.out.frozen 3
    have z4 : w7.frozen? ⟨w.heap.size, 4, none⟩ = false := HT.out.frozen 4
    have y0 : w7.cell? ⟨w.heap.size, 0, none⟩ = some (.int .i64 0) := HT.out.cell 0
    have y1 : w7.cell? ⟨w.heap.size, 1, none⟩ = some (.int .i64 0) := HT.out.cell 1
    have y2 : w7.cell? ⟨w.heap.size, 2, none⟩ = some (.int .i64 0) := HT.out.cell 2
    have y3 : w7.cell? ⟨w.heap.size, 3, none⟩ = some (.int .i64 0) := HT.out.cell 3
    have y4 : w7.cell? ⟨w.heap.size, 4, none⟩ = some (.int .i64 0) := HT.out.cell 4
    cases hright : rightB (n1 : Int) (n2 : Int) (n3 : Int) (n4 : Int) (n5 : Int)
    · have HQ := Lib.hid (show rdE 0 n1 n2 n3 n4 n5 = 4 by simp [rdE, hright])
      clear hright
      go_wp2_with fail
      refine bodyPost_ret (results_cell_tmp rfl _ _ _ ⟨w.heap.size, 0, none⟩ _ rfl (loadR5 (HT.out.set5 _ _ _ _ _))) rfl ?_
      refine ⟨?_, (HK.out.row5 (.inr (Nat.le_refl _)) _ _ _ _ _).none_grown⟩
      rw [← HV.out, ← HR.out, rdV, HQ.out, if_neg (by omega)]; rfl
    · have HQ := Lib.hid (show rdE 0 n1 n2 n3 n4 n5 = 0 by simp [rdE, hright])
      have a0 := HS.out.cell 0
      have a1 := HS.out.cell 1
      have a2 := HS.out.cell 2
      have a3 := HS.out.cell 3
      have a4 := HS.out.cell 4
      simp at a0 a1 a2 a3 a4
      clear hright
      go_wp2_with fail
      refine bodyPost_ret (results_cell_tmp rfl _ _ _ ⟨w.heap.size, 0, none⟩ _ rfl (loadR5 (HT.out.set5 _ _ _ _ _))) rfl ?_
      refine ⟨?_, (HK.out.row5 (.inr (Nat.le_refl _)) _ _ _ _ _).none_grown⟩
      rw [← HV.out, ← HR.out, rdV, HQ.out, if_pos rfl]; rfl
  · have hz : ((d : Int) != 0) = true := by simp; omega
    have HT := Lib.hid (S5.out.tgt.kept K6.out (fun h => h))
    have HK := Lib.hid (S5.out.kept.follow K6.out (fun _ _ h => h))
    have HQ := Lib.hid (show rdE d n1 n2 n3 n4 n5 = d ∧ d ≠ 0 by simp [rdE, hd0])
    clear hd0
    have z0 : w6.frozen? ⟨w.heap.size, 0, none⟩ = false := HT.out.frozen 0
    have z1 : w6.frozen? ⟨w.heap.size, 1, none⟩ = false := HT.out.frozen 1
    have z2 : w6.frozen? ⟨w.heap.size, 2, none⟩ = false := HT.out.frozen 2
    have z3 : w6.frozen? ⟨w.heap.size, 3, none⟩ = false := HT.out.frozen 3
    have z4 : w6.frozen? ⟨w.heap.size, 4, none⟩ = false := HT.out.frozen 4
    have y0 : w6.cell? ⟨w.heap.size, 0, none⟩ = some (.int .i64 0) := HT.out.cell 0
    have y1 : w6.cell? ⟨w.heap.size, 1, none⟩ = some (.int .i64 0) := HT.out.cell 1
    have y2 : w6.cell? ⟨w.heap.size, 2, none⟩ = some (.int .i64 0) := HT.out.cell 2
    have y3 : w6.cell? ⟨w.heap.size, 3, none⟩ = some (.int .i64 0) := HT.out.cell 3
    have y4 : w6.cell? ⟨w.heap.size, 4, none⟩ = some (.int .i64 0) := HT.out.cell 4
    go_wp2_with fail
    refine bodyPost_ret (results_cell_tmp rfl _ _ _ ⟨w.heap.size, 0, none⟩ _ rfl (loadR5 (HT.out.set5 _ _ _ _ _))) rfl ?_
    refine ⟨?_, (HK.out.row5 (.inr (Nat.le_refl _)) _ _ _ _ _).none_grown⟩
    rw [← HV.out, ← HR.out, rdV, HQ.out.1, if_neg HQ.out.2]; rfl
end Go.Proofs.YthkjlgjbjjjohaaGreatDoor
/-
  RulesBytes: the walk.
-/
namespace Go.Proofs.YthkjlgjbjjjohaaGreatDoor
open Go.RowKit

theorem valOf_be : ∀ k n, valOf (be k n) = n % 256 ^ k
  | 0, n => by simp [be, valOf, Nat.mod_one]
  | k + 1, n => by
    have h1 : valOf (be (k + 1) n) = (n / 256 ^ k % 256) * 256 ^ k + valOf (be k n) := by
      have h := valOf_cons (be k n) (n / 256 ^ k % 256)
      rw [be_length] at h
      rw [← h]
      simp [be, valOf]
    rw [h1, valOf_be k n, Nat.pow_succ, Nat.mod_mul, Nat.mul_comm (256 ^ k), Nat.add_comm]
theorem pNum_be (k m : Nat) (r : List UInt8) (h1 : 1 ≤ k) (h8 : k ≤ 8) (hm : m < 256 ^ k) (h63 : m < 9223372036854775808) : pNum (k : Int) 0 (be k m ++ r) = (m, 0, r) := by
  have hl : (be k m).length = k := be_length k m
  have ht : (be k m ++ r).take k = be k m := by rw [List.take_append_of_le_length (by omega), List.take_of_length_le (by omega)]
  have hd : (be k m ++ r).drop k = r := by
    have h := List.drop_left (l₁ := be k m) (l₂ := r)
    rw [hl] at h
    exact h
  have hv : valOf (be k m) = m := by rw [valOf_be, Nat.mod_eq_of_lt hm]
  unfold pNum
  rw [if_neg (by simp), if_neg (by omega), if_neg (by rw [List.length_append, hl]; omega), Int.toNat_natCast, ht, hd, hv, if_neg (by omega)]
theorem pNum_le {width : Int} {e n1 e1 : Nat} {l l1 : List UInt8} (h : pNum width e l = (n1, e1, l1)) (he : e ≤ 18) : e1 ≤ 18 := by
  have h2 : (pNum width e l).2.1 = e1 := by rw [h]
  rw [← h2]
  unfold pNum
  repeat' split
  all_goals simp
  all_goals omega
theorem num_of (w : World) (B : Nat) (E : Nat → Addr) (e : Nat) (he : e ≤ 18) (hE : ErrEnv w B E) : Calls Tryz.prog 18 #[evOf E e] w fun en w' => en = .returned (.int .i64 (e : Int)) ∧ w.grownBy w' none := by
  rcases e with _ | k
  · exact (num_nil w).mono fun _ _ ⟨h1, h2⟩ => ⟨h1, h2 ▸ World.grownBy.refl w none⟩
  · exact (num_err w B E k (by omega) hE).mono fun _ _ ⟨h1, h2⟩ => ⟨h1, h2⟩
theorem rdV_form (d n1 n2 n3 n4 n5 : Nat) : ∃ x1 x2 x3 x4 x5 : Int, rdV d n1 n2 n3 n4 n5 = stC x1 x2 x3 x4 x5 := by
  unfold rdV
  split
  · exact ⟨_, _, _, _, _, rfl⟩
  · exact ⟨_, _, _, _, _, rfl⟩

end Go.Proofs.YthkjlgjbjjjohaaGreatDoor
