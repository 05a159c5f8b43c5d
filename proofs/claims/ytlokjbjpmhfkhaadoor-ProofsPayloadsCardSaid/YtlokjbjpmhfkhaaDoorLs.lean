/-
  Lists of bytes: how they lie; bytes.Clone, bytes.Equal; the first one that a predicate holds of.
-/
import Derived.Test.YtlokjbjpmhfkhaaDoorArgB
import Derived.Test.YtlokjbjpmhfkhaaDoorGrow
import Derived.Laws.BytesArg
namespace Go.Proofs.YtlokjbjpmhfkhaaDoor
open Go.RowKit

theorem str_any {w : World} {A : Option Addr} {n c : Nat} {l : List UInt8} (hb : BytesAt w A l) (hn : l.length = n) :
    (convert 25 9 (.slice A n c)).run Tryd.prog w = .ok (.string ⟨l.toArray⟩) w := by
  subst hn
  rcases A with _ | ad
  · have hl0 : l = [] := by
      rcases l with _ | ⟨x, r⟩
      · rfl
      · obtain ⟨_, h, _⟩ := hb (by simp)
        cases h
    subst hl0
    exact run_convert_bytes_nil w 25 5 Tryd.underlying25 Tryd.underlying5 _ _ 9 Tryd.underlying9
  · refine run_convert_bytes_back w 25 9 5 ad c l Tryd.underlying25 Tryd.underlying5 Tryd.underlying9 fun j hj => ?_
    obtain ⟨ad', h, hc⟩ := hb (by intro e; subst e; simp at hj)
    injection h with h
    subst h
    exact hc j hj
theorem b8_info : (Tryd.prog.info? 5).map (fun i => (i.zero, i.size, i.bytes)) = some (some (.int .u8 0), 1, 1) := by kernel_rfl
theorem row_bytesAt {w : World} {base : Nat} {A : Option Addr} {n c : Nat} {l : List UInt8} (h : w.ownsRow base 5 1 (.slice A n c) n (Lib.byteCells l)) : BytesAt w A l := fun hl => by
  have hn : l.length = n := by have := h.1; simpa [Lib.byteCells] using this
  obtain ⟨g, cap, hv⟩ := Joins.ownsRow_form h (by have := List.length_pos_iff.2 hl; omega)
  have hA : A = some ⟨g, 0, none⟩ := by injection hv
  refine ⟨_, hA, fun j hj => h.cells (g := g) (by rw [hv]; rfl) j _ ?_⟩
  simp [Lib.byteCells, List.getElem?_eq_getElem hj]
theorem row_low {w : World} {base : Nat} {e : TypeId} {size : Nat} {A : Option Addr} {n c m : Nat} {xs : List Value} (h : w.ownsRow base e size (.slice A n c) m xs) : ∀ ad, A = some ad → base ≤ ad.block := by
  rintro ad rfl
  exact (h.lt ad.block rfl).1

/-- bytes.Equal. -/
theorem bequal_is (w : World) (A B : Option Addr) (c d : Nat) (x y : List UInt8) (hx : BytesAt w A x) (hy : BytesAt w B y) :
    Calls Tryd.prog 18 #[.slice A x.length c, .slice B y.length d] w fun e w' => e = .returned (.bool (decide (x = y))) ∧ w' = w := by
  have h1 := str_any (c := c) hx rfl
  have h2 := str_any (c := d) hy rfl
  have he : decide (x = y) = (x == y) := by rw [Bool.eq_iff_iff]; simp
  rw [he]
  clear he hx hy
  go_enter Tryd.func18, Tryd.ntmps18
  go_wp2
  go_ret
  exact ⟨rfl, rfl⟩

theorem Kept.next {F G : Nat → Prop} {a b c : World} (h : Kept F a b) (k : Kept G b c) (hF : ∀ k, k < a.heap.size → G k → F k) : Kept F a c :=
  ⟨k.os.trans h.os, k.tape.trans h.tape, k.output.trans h.output, Nat.le_trans h.size k.size, fun i hi hn => (k.block i (Nat.lt_of_lt_of_le hi h.size) (fun hg => hn (hF i hi hg))).trans (h.block i hi hn)⟩

/-! ### Lists of bytes -/
/-- Each of xs lies as a slice at A, one behind the other. -/
def LsAt (w : World) (A : Option Addr) (xs : List (List UInt8)) : Prop :=
  xs ≠ [] → ∃ b off, A = some ⟨b, off, none⟩ ∧ ∀ j (_ : j < xs.length), ∃ B c, w.cell? ⟨b, off + j, none⟩ = some (.slice B xs[j].length c) ∧ BytesAt w B xs[j]
theorem LsAt.grown {w w' : World} {A : Option Addr} {xs : List (List UInt8)} (h : LsAt w A xs) (hk : w.grownBy w' none) : LsAt w' A xs := fun hne => by
  obtain ⟨b, off, e, hc⟩ := h hne
  exact ⟨b, off, e, fun j hj => by obtain ⟨B, c, h1, h2⟩ := hc j hj; exact ⟨B, c, hk.cell h1 (by simp), h2.grown hk (by simp)⟩⟩

/-- The place of the first of ys that p holds of, from k on; -1 if there is none. -/
def firstI (p : List UInt8 → Bool) : Nat → List (List UInt8) → Int
  | _, [] => -1
  | k, y :: ys => if p y then (k : Int) else firstI p (k + 1) ys
theorem firstI_none {p : List UInt8 → Bool} : ∀ (k : Nat) (ys : List (List UInt8)), (∀ y ∈ ys, p y = false) → firstI p k ys = -1
  | _, [], _ => rfl
  | k, y :: ys, h => by
    rw [firstI, h y (by simp)]
    exact firstI_none (k + 1) ys (fun z hz => h z (by simp [hz]))
theorem firstI_at {p : List UInt8 → Bool} : ∀ (k : Nat) (ys : List (List UInt8)) (j : Nat) (hj : j < ys.length), p ys[j] = true → (∀ i (h : i < j), p (ys[i]'(by omega)) = false) → firstI p k ys = ((k + j : Nat) : Int)
  | _, [], j, hj, _, _ => by simp at hj
  | k, y :: ys, 0, _, h, _ => by
    have h0 : p y = true := h
    rw [firstI, h0]; simp
  | k, y :: ys, j + 1, hj, h, hn => by
    have h0 : p y = false := hn 0 (by omega)
    rw [firstI, h0]
    have := firstI_at (p := p) (k + 1) ys j (by simpa using hj) (by simpa using h) (fun i hi => by simpa using hn (i + 1) (by omega))
    simp only [Bool.false_eq_true, if_false]
    rw [this]; congr 1; omega

set_option maxRecDepth 100000 in
set_option maxHeartbeats 1000000 in
/-- slices.IndexFunc, by a function whose answers are p. -/
theorem lsindex_is (w : World) (A : Option Addr) (n c : Nat) (ys : List (List UInt8)) (hn : ys.length = n) (hnb : n ≤ 1000000) (hy : LsAt w A ys) (fn : FuncId) (cap : Value) (p : List UInt8 → Bool)
    (hE : ∀ (args : Array Value) (w : World), (callFunc fn args).run Tryd.prog w = .ok (.enter fn args) w)
    (hP : ∀ w1 B d x, w.grownBy w1 none → BytesAt w1 B x → Calls Tryd.prog fn #[.slice B x.length d, cap] w1 fun e w2 => e = .returned (.bool (p x)) ∧ w1.grownBy w2 none) :
    Calls Tryd.prog 33 #[.slice A n c, .func (.func fn) #[] #[cap]] w fun e w' => e = .returned (.int .i64 (firstI p 0 ys)) ∧ w.grownBy w' none := by
  have HY := Lib.hid (And.intro hn hy)
  have HP := Lib.hid hP
  clear hn hy hP
  go_enter Tryd.func33, Tryd.ntmps33
  go_wp2_with fail
  go_loopw [8] (fun i wr => ∃ k : Nat, k ≤ n ∧ i = .int .i64 (k : Int) ∧ Hid (∀ j (h : j < ys.length), j < k → p ys[j] = false) ∧ w.grownBy wr none) (fun i _ => n - (intOf i).toNat)
  case atStart => exact ⟨0, by omega, rfl, Lib.hid (fun j _ h => absurd h (by omega)), World.grownBy.refl w none⟩
  case round =>
    obtain ⟨k, hk, hi, hno, hK⟩ := hrel
    obtain ⟨I, hI⟩ : ∃ I : Int, I = (k : Int) := ⟨_, rfl⟩
    rw [← hI] at hi
    subst hi
    by_cases hlt : k < n
    · have d1 : decide (I < (n : Int)) = true := by simp; omega
      have hkx : k < ys.length := by have := HY.out.1; omega
      obtain ⟨b, off, rfl, hc⟩ := (HY.out.2.grown hK) (by rintro rfl; simp at hkx)
      obtain ⟨B, d, hcell, hB⟩ := hc k hkx
      have hkI : I.toNat = k := by omega
      obtain ⟨y, hye⟩ : ∃ y, y = ys[k] := ⟨_, rfl⟩
      rw [← hye] at hcell hB
      rw [← hkI] at hcell
      have hI2 : 0 ≤ I ∧ I < (n : Int) := by omega
      have HB := Lib.hid (And.intro hB (And.intro hK (And.intro hI (And.intro hlt (show ∃ h : k < ys.length, y = ys[k] from ⟨hkx, hye⟩)))))
      obtain ⟨r, hr⟩ : ∃ r, r = p y := ⟨_, rfl⟩
      have Hr := Lib.hid hr
      clear hc hB hK hI hlt hkI hye hkx hr
      go_wp2_with fail
      refine (HP.out wr B d y HB.out.2.1 HB.out.1).mono ?_
      rintro e w2 ⟨rfl, k2⟩
      rw [← Hr.out]
      have K2 := Lib.hid (grown_trans HB.out.2.1 k2)
      clear k2
      cases r with
      | true =>
        go_wp2_with fail
        go_ret
        obtain ⟨_, _, h3, h4, h5, h6⟩ := HB.out
        refine ⟨?_, K2.out⟩
        rw [firstI_at 0 ys k h5 (by rw [← h6]; exact Hr.out.symm) (fun i hi => hno.out i (by omega) hi), h3, Nat.zero_add]
        rfl
      | false =>
        go_wp2_with fail
        go_roundw
        case rel =>
          obtain ⟨_, _, h3, h4, h5, h6⟩ := HB.out
          refine ⟨k + 1, by omega, by rw [h3]; rfl, Lib.hid (fun j hj hjk => ?_), K2.out⟩
          by_cases hjk' : j < k
          · exact hno.out j hj hjk'
          · obtain rfl : j = k := by omega
            rw [← h6]; exact Hr.out.symm
        case measure => obtain ⟨_, _, h3, h4, h5, h6⟩ := HB.out; simp [intOf]; omega
    · have d1 : decide (I < (n : Int)) = false := by simp; omega
      have HN := Lib.hid (And.intro hK (And.intro hk hlt))
      clear hK hk hlt hI
      go_wp2_with fail
      go_ret
      refine ⟨?_, HN.out.1⟩
      rw [firstI_none 0 ys (fun y hy => by
        obtain ⟨j, hj, rfl⟩ := List.getElem_of_mem hy
        exact hno.out j hj (by have := HN.out; have := HY.out.1; omega))]
      rfl
end Go.Proofs.YtlokjbjpmhfkhaaDoor
