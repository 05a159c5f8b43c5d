/-
  Disk: the calls of a disk that was made behind a beginning: what they answer, and the disk behind them, as functions.
-/
import Derived.Test.YtmecimhlnajaoaaDoorDkZ
import Derived.Test.YtmecimhlnajaoaaDoorDkN
namespace Go.Proofs.YtmecimhlnajaoaaDoor
open Go.RowKit Go.Maps

def inR (z : DkS) (i : Int) : Bool := decide (0 ≤ i ∧ i < (z.syn.length : Int))
def wE (z : DkS) (i : Int) : Nat := if inR z i then (if opOk z then 0 else 2) else 1
def wS (z : DkS) (i : Int) (r : List Int) : DkS := if inR z i then (if opOk z then wrS (opS z) i.toNat r else opS z) else z
def sE (z : DkS) : Nat := if opOk z then 0 else 2
def sS (z : DkS) : DkS := if opOk z then syncS (opS z) else opS z
def rE (z : DkS) (i : Int) : Nat := if inR z i then (if z.off then 2 else 0) else 1
def rV (z : DkS) (i : Int) : List Int := if inR z i then (if z.off then zeroR else readS z i.toNat) else zeroR
def eV (er ep : Addr) : Nat → Value
  | 0 => .nilIface
  | 1 => errV er
  | _ => errV ep
/-- A disk that lies behind the beginning w0. -/
def Dsk (w0 w : World) (d b m : Nat) (z : DkS) : Prop :=
  DkIs w d b m z ∧ Kept (fun j => w0.heap.size ≤ j) w0 w ∧ w0.heap.size ≤ d ∧ w0.heap.size ≤ b ∧ w0.heap.size ≤ m
theorem Dsk.next {w0 w w' : World} {d b m : Nat} {z y : DkS} (h : Dsk w0 w d b m z) (hy : DkIs w' d b m y) (hk : Kept (fun j => j = d ∨ j = b ∨ j = m) w w') : Dsk w0 w' d b m y :=
  ⟨hy, h.2.1.next hk (fun j _ e => by
    have := h.2.2
    have e : j = d ∨ j = b ∨ j = m := e
    show w0.heap.size ≤ j
    omega), h.2.2⟩
theorem Dsk.grown {w0 w w' : World} {d b m : Nat} {z : DkS} (h : Dsk w0 w d b m z) (hg : w.grownBy w' none) : Dsk w0 w' d b m z :=
  h.next (h.1.grown hg) (Kept.of_grown (F := fun j => j = d ∨ j = b ∨ j = m) hg fun _ e => by cases e)
theorem Dsk.below {w0 w : World} {d b m : Nat} {z : DkS} (h : Dsk w0 w d b m z) : Below w0.heap.size w0 w := h.2.1.below (Nat.le_refl _) (fun _ h => h)
theorem Dsk.grownNone {w0 w : World} {d b m : Nat} {z : DkS} (h : Dsk w0 w d b m z) : w0.grownBy w none := h.2.1.grownNone (fun j h1 h2 => by omega)
/-- The disk turns; what lies beside it is kept. -/
def DTurn (d b m : Nat) (w w' : World) : Prop := Kept (fun j => j = d ∨ j = b ∨ j = m) w w'

section
variable {w0 w : World} {d b m : Nat} {z : DkS} {er ep : Addr}
theorem dsk_new (w0 w : World) (hk : Kept (fun j => w0.heap.size ≤ j) w0 w) (n : Nat) (hn : 1 ≤ n ∧ n ≤ 4096) (er : Addr) (he : ErrAt w0 w0.heap.size 0 er) :
    Calls Tryd.prog 9 #[.int .i64 (n : Int)] w fun e w' => w.grownBy w' none ∧ ∃ d b m, e = .returned (.tuple #[.pointer (some ⟨d, 0, none⟩), .nilIface]) ∧ Dsk w0 w' d b m (newS n) ∧ w.heap.size ≤ d ∧ w.heap.size ≤ b ∧ w.heap.size ≤ m := by
  have hb := hk.below (Nat.le_refl _) (fun _ h => h)
  refine (dk_new w w0.heap.size (n : Int) er (he.below hb (Nat.le_refl _))).mono ?_
  rintro e w' ⟨hg, ⟨hno, _⟩ | ⟨k, d, b, m, hnk, _, _, rfl, hd, h1, h2, h3⟩⟩
  · omega
  · obtain rfl : n = k := by omega
    have hs := hk.size
    exact ⟨hg, d, b, m, rfl, ⟨hd, hk.next (Kept.of_grown (F := fun j => w0.heap.size ≤ j) hg fun _ e => by cases e) (fun _ _ h => h), by omega, by omega, by omega⟩, h1, h2, h3⟩
theorem dsk_write (h : Dsk w0 w d b m z) (her : ErrAt w0 w0.heap.size 0 er) (hep : ErrAt w0 w0.heap.size 5 ep) (i : Int) (r : List Int) (hr : r.length = 64) :
    Calls Tryd.prog 13 #[.pointer (some ⟨d, 0, none⟩), .int .i64 i, secV r] w fun e w' => e = .returned (eV er ep (wE z i)) ∧ Dsk w0 w' d b m (wS z i r) ∧ DTurn d b m w w' := by
  refine (dk_write w d b m w0.heap.size z h.1 i r hr er ep h.2.2.1 h.2.2.2.2 (her.below h.below (Nat.le_refl _)) (hep.below h.below (Nat.le_refl _))).mono ?_
  rintro e w' ⟨hk, hor⟩
  have hk2 : Kept (fun j => j = d ∨ j = b ∨ j = m) w w' := hk.mono (fun j _ h => by rcases h with h | h; exact .inl h; exact .inr (.inr h))
  rcases hor with ⟨hno, rfl, hd⟩ | ⟨k, rfl, hk1, ⟨ho, rfl, hd⟩ | ⟨ho, rfl, hd⟩⟩
  · have e1 : inR z i = false := by simpa [inR] using hno
    refine ⟨by simp [wE, e1, eV], ?_, hk2⟩
    simp only [wS, e1, Bool.false_eq_true, if_false]
    exact h.next hd hk2
  · have e1 : inR z (k : Int) = true := by simp only [inR, decide_eq_true_eq]; omega
    refine ⟨by simp [wE, e1, ho, eV], ?_, hk2⟩
    simp only [wS, e1, ho, Bool.false_eq_true, if_false, if_true]
    exact h.next hd hk2
  · have e1 : inR z (k : Int) = true := by simp only [inR, decide_eq_true_eq]; omega
    refine ⟨by simp [wE, e1, ho, eV], ?_, hk2⟩
    simp only [wS, e1, ho, if_true, Int.toNat_natCast]
    exact h.next hd hk2
theorem dsk_sync (h : Dsk w0 w d b m z) (hep : ErrAt w0 w0.heap.size 5 ep) (er : Addr) :
    Calls Tryd.prog 15 #[.pointer (some ⟨d, 0, none⟩)] w fun e w' => e = .returned (eV er ep (sE z)) ∧ Dsk w0 w' d b m (sS z) ∧ DTurn d b m w w' := by
  refine (dk_sync w d b m w0.heap.size z h.1 ep h.2.2.1 (hep.below h.below (Nat.le_refl _))).mono ?_
  rintro e w' ⟨hk, ⟨ho, rfl, hd⟩ | ⟨ho, rfl, hd⟩⟩
  · refine ⟨by simp [sE, ho, eV], ?_, hk⟩
    simp only [sS, ho, Bool.false_eq_true, if_false]
    exact h.next hd hk
  · refine ⟨by simp [sE, ho, eV], ?_, hk⟩
    simp only [sS, ho, if_true]
    exact h.next hd hk
theorem dsk_read (h : Dsk w0 w d b m z) (her : ErrAt w0 w0.heap.size 0 er) (hep : ErrAt w0 w0.heap.size 5 ep) (i : Int) :
    Calls Tryd.prog 21 #[.pointer (some ⟨d, 0, none⟩), .int .i64 i] w fun e w' => e = .returned (.tuple #[secV (rV z i), eV er ep (rE z i)]) ∧ w.grownBy w' none := by
  refine (dk_read w d b m w0.heap.size z h.1 i er ep (her.below h.below (Nat.le_refl _)) (hep.below h.below (Nat.le_refl _))).mono ?_
  rintro e w' ⟨hg, ⟨hno, rfl⟩ | ⟨k, rfl, hk1, ⟨ho, rfl⟩ | ⟨ho, rfl⟩⟩⟩
  · have e1 : inR z i = false := by simpa [inR] using hno
    exact ⟨by simp [rE, rV, e1, eV], hg⟩
  · have e1 : inR z (k : Int) = true := by simp only [inR, decide_eq_true_eq]; omega
    exact ⟨by simp [rE, rV, e1, ho, eV], hg⟩
  · have e1 : inR z (k : Int) = true := by simp only [inR, decide_eq_true_eq]; omega
    exact ⟨by simp [rE, rV, e1, ho, eV], hg⟩
theorem dsk_arm (h : Dsk w0 w d b m z) (k : Int) (hk : k < 9223372036854775808) : Calls Tryd.prog 17 #[.pointer (some ⟨d, 0, none⟩), .int .i64 k] w fun e w' => e = .returned (.tuple #[]) ∧ Dsk w0 w' d b m (armS z k) ∧ DTurn d b m w w' :=
  (dk_arm w d b m z h.1 k hk).mono fun e w' ⟨he, hd, hk⟩ => ⟨he, h.next hd (hk.mono fun _ _ h => .inl h), hk.mono fun _ _ h => .inl h⟩
theorem dsk_crash (h : Dsk w0 w d b m z) (A : Option Addr) (n c : Nat) (keep : List Bool) (hkn : keep.length = n) (hk : BoolsAt w A keep) (hka : ∀ a, A = some a → keep ≠ [] → a.block ≠ b) :
    Calls Tryd.prog 19 #[.pointer (some ⟨d, 0, none⟩), .slice A n c] w fun e w' => e = .returned (.tuple #[]) ∧ Dsk w0 w' d b m (crashS z keep) ∧ DTurn d b m w w' :=
  (dk_crash w d b m z h.1 A n c keep hkn hk hka).mono fun e w' ⟨he, hd, hk⟩ => ⟨he, h.next hd hk, hk⟩
theorem dsk_unsynced (h : Dsk w0 w d b m z) : Calls Tryd.prog 25 #[.pointer (some ⟨d, 0, none⟩)] w fun e w' => ∃ A c, e = .returned (.slice A (dirtyL z.wr).length c) ∧ (dirtyL z.wr).length ≤ c ∧ IntsAt w' A (dirtyL z.wr) ∧ w.grownBy w' none := by
  obtain ⟨D, hown, hM⟩ := h.1.2.2.1
  refine (unsynced_is w d m 5000 D z.wr (h.1.1.cell 1) hown hM (by have := h.1.2.2.2.1; have := h.1.2.2.2.2.2.1; omega)).mono ?_
  rintro e w' ⟨v, rfl, hrow, _, hb⟩
  obtain ⟨A, c, rfl, hc, hi⟩ := own_ints hrow
  exact ⟨A, c, rfl, hc, hi, grown_below0 hb⟩
end
/-! ### Some disks -/
theorem opOk_of {z : DkS} (h1 : z.off = false) (h2 : z.lasts ≠ 0) : opOk z = true := by simp [opOk, h1, h2]
theorem opS_forever {z : DkS} (h1 : z.off = false) (h2 : z.lasts = -1) : opS z = z := by
  rw [opS, if_neg (by omega), if_neg (by simp [h1]), if_neg (by omega)]
theorem wE_ok {z : DkS} {i : Nat} (hi : i < z.syn.length) (h1 : z.off = false) (h2 : z.lasts ≠ 0) : wE z (i : Int) = 0 := by
  have : inR z (i : Int) = true := by simp only [inR, decide_eq_true_eq]; omega
  simp [wE, this, opOk_of h1 h2]
theorem wS_ok {z : DkS} {i : Nat} (r : List Int) (hi : i < z.syn.length) (h1 : z.off = false) (h2 : z.lasts = -1) : wS z (i : Int) r = wrS z i r := by
  have : inR z (i : Int) = true := by simp only [inR, decide_eq_true_eq]; omega
  simp [wS, this, opOk_of h1 (show z.lasts ≠ 0 by omega), opS_forever h1 h2]
theorem sE_ok {z : DkS} (h1 : z.off = false) (h2 : z.lasts ≠ 0) : sE z = 0 := by simp [sE, opOk_of h1 h2]
theorem sS_ok {z : DkS} (h1 : z.off = false) (h2 : z.lasts = -1) : sS z = syncS z := by simp [sS, opOk_of h1 (show z.lasts ≠ 0 by omega), opS_forever h1 h2]
theorem rE_ok {z : DkS} {i : Nat} (hi : i < z.syn.length) (h1 : z.off = false) : rE z (i : Int) = 0 := by
  have : inR z (i : Int) = true := by simp only [inR, decide_eq_true_eq]; omega
  simp [rE, this, h1]
theorem rV_ok {z : DkS} {i : Nat} (hi : i < z.syn.length) (h1 : z.off = false) : rV z (i : Int) = readS z i := by
  have : inR z (i : Int) = true := by simp only [inR, decide_eq_true_eq]; omega
  simp [rV, this, h1]
/-- A sector of one byte, the others zero. -/
def firstR (x : Int) : List Int := x :: List.replicate 63 0
theorem firstR_len (x : Int) : (firstR x).length = 64 := by simp [firstR]
theorem build_first (w : World) (x : Int) (es : Array Value) (h : ((firstR x).map (Value.int .u8)).toArray = es) : Sem.run Tryd.prog (Instr.build 36 #[(0, .int .u8 x)]) w = .ok (.agg es) w := by
  subst h
  exact run_build w 36 _ _ (by kernel_rfl)
section
variable {w0 w : World} {d b m : Nat} {z y : DkS} {er ep : Addr}
theorem dsk_write0 (h : Dsk w0 w d b m z) (her : ErrAt w0 w0.heap.size 0 er) (hep : ErrAt w0 w0.heap.size 5 ep) (i : Int) (r : List Int) (hr : r.length = 64) (hE : wE z i = 0) (hS : wS z i r = y) (es : Array Value) (hes : (r.map (Value.int .u8)).toArray = es) :
    Calls Tryd.prog 13 #[.pointer (some ⟨d, 0, none⟩), .int .i64 i, .agg es] w fun e w' => e = .returned .nilIface ∧ Dsk w0 w' d b m y ∧ DTurn d b m w w' := by
  have h := dsk_write h her hep i r hr
  rw [hE, hS, secV, hes] at h
  exact h
theorem dsk_sync0 (h : Dsk w0 w d b m z) (hep : ErrAt w0 w0.heap.size 5 ep) (hE : sE z = 0) (hS : sS z = y) :
    Calls Tryd.prog 15 #[.pointer (some ⟨d, 0, none⟩)] w fun e w' => e = .returned .nilIface ∧ Dsk w0 w' d b m y ∧ DTurn d b m w w' := by
  have h := dsk_sync h hep ep
  rw [hE, hS] at h
  exact h
theorem dsk_read0 (h : Dsk w0 w d b m z) (her : ErrAt w0 w0.heap.size 0 er) (hep : ErrAt w0 w0.heap.size 5 ep) (i : Int) (hE : rE z i = 0) (r : List Int) (hV : rV z i = r) (es : Array Value) (hes : (r.map (Value.int .u8)).toArray = es) :
    Calls Tryd.prog 21 #[.pointer (some ⟨d, 0, none⟩), .int .i64 i] w fun e w' => e = .returned (.tuple #[.agg es, .nilIface]) ∧ w.grownBy w' none := by
  have h := dsk_read h her hep i
  rw [hE, hV, secV, hes] at h
  exact h
theorem dsk_crash0 (h : Dsk w0 w d b m z) (hS : crashS z [] = y) : Calls Tryd.prog 19 #[.pointer (some ⟨d, 0, none⟩), .slice none 0 0] w fun e w' => e = .returned (.tuple #[]) ∧ Dsk w0 w' d b m y ∧ DTurn d b m w w' := by
  have h := dsk_crash h none 0 0 [] rfl (BoolsAt.nil _ _) (fun _ e => by cases e)
  rw [hS] at h
  exact h
end
end Go.Proofs.YtmecimhlnajaoaaDoor
