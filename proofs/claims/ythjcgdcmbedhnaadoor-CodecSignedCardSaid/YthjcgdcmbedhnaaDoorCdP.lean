/-
  Messages as bytes: the document's forms as functions of what is written so far (the first error's number, the bytes).
-/
import Derived.Test.YthjcgdcmbedhnaaDoorWire
namespace Go.Proofs.YthjcgdcmbedhnaaDoor
open Go.RowKit

abbrev WSt := Nat × List UInt8
/-- The first error stays. -/
def sFail (k : Nat) (s : WSt) : WSt := if s.1 = 0 then (k, s.2) else s
def sFix (x : List UInt8) (s : WSt) : WSt := if s.1 = 0 then (0, s.2 ++ x) else s
def sNum (n w : Int) (s : WSt) : WSt := if badNum n w = true then sFail 1 s else sFix (be w.toNat n.toNat) s
def sBytes (x : List UInt8) (most : Int) (s : WSt) : WSt := if most < (x.length : Int) ∨ 65535 < x.length then sFail 1 s else sFix x (sNum (x.length : Int) 2 s)
def sPut (n : Nat) (most : Int) (f : WSt → WSt) (s : WSt) : WSt := if most < (n : Int) ∨ 255 < n then sFail 1 s else f (sNum (n : Int) 1 s)
def sAll {α : Type} (f : α → WSt → WSt) (L : List α) (s : WSt) : WSt := L.foldl (fun s x => f x s) s
theorem sAll_nil {α : Type} (f : α → WSt → WSt) (s : WSt) : sAll f [] s = s := rfl
theorem sAll_snoc {α : Type} (f : α → WSt → WSt) (L : List α) (x : α) (s : WSt) : sAll f (L ++ [x]) s = f x (sAll f L s) := by simp [sAll, List.foldl_append]

/-- It writes at most so many bytes. -/
def Adds (c : Nat) (f : WSt → WSt) : Prop := ∀ s, (f s).2.length ≤ s.2.length + c
theorem Adds.mono {c d : Nat} {f : WSt → WSt} (h : Adds c f) (hcd : c ≤ d) : Adds d f := fun s => Nat.le_trans (h s) (by omega)
theorem Adds.comp {c d : Nat} {f g : WSt → WSt} (h : Adds c f) (k : Adds d g) : Adds (c + d) (fun s => g (f s)) := fun s => by
  have h1 := h s
  have h2 := k (f s)
  show (g (f s)).2.length ≤ _
  omega
theorem adds_fail (k c : Nat) : Adds c (sFail k) := fun s => by unfold sFail; split <;> simp <;> omega
theorem adds_fix (x : List UInt8) : Adds x.length (sFix x) := fun s => by unfold sFix; split <;> simp
theorem adds_num (n : Int) (w : Nat) : Adds w (sNum n (w : Int)) := fun s => by
  unfold sNum
  split
  · exact adds_fail 1 w s
  · exact Nat.le_trans (adds_fix _ s) (by rw [be_length]; simp)
theorem adds_all {α : Type} {f : α → WSt → WSt} {c : Nat} (L : List α) (h : ∀ x ∈ L, Adds c (f x)) : Adds (L.length * c) (sAll f L) := fun s => by
  induction L generalizing s with
  | nil => simp [sAll]
  | cons x r ih =>
    have h1 := ih (fun y hy => h y (List.mem_cons_of_mem _ hy)) (f x s)
    have h2 := h x (List.mem_cons_self ..) s
    have : sAll f (x :: r) s = sAll f r (f x s) := rfl
    rw [this, List.length_cons, Nat.succ_mul]
    omega
theorem adds_put {n : Nat} {most : Int} {c m : Nat} {f : WSt → WSt} (hm : most = (m : Int)) (h : n ≤ m → Adds (n * c) f) : Adds (1 + m * c) (sPut n most f) := fun s => by
  subst hm
  unfold sPut
  split
  · exact adds_fail 1 _ s
  · have hn : n ≤ m := by omega
    have h1 := adds_num (n : Int) 1 s
    have h2 := h hn (sNum (n : Int) 1 s)
    have h3 : n * c ≤ m * c := Nat.mul_le_mul_right c hn
    have h4 : sNum (n : Int) 1 s = sNum (n : Int) ((1 : Nat) : Int) s := rfl
    rw [h4] at h2 ⊢
    omega
theorem adds_bytes (x : List UInt8) (m : Nat) : Adds (2 + m) (sBytes x (m : Int)) := fun s => by
  unfold sBytes
  split
  · exact adds_fail 1 _ s
  · have h1 := adds_num (x.length : Int) 2 s
    have h2 := adds_fix x (sNum (x.length : Int) ((2 : Nat) : Int) s)
    have h4 : sNum (x.length : Int) 2 s = sNum (x.length : Int) ((2 : Nat) : Int) s := rfl
    rw [h4]
    omega

/-- A digest's bytes. -/
def dgB (d : List Int) : List UInt8 := d.map fun z => UInt8.ofNat z.toNat
theorem dgB_length (d : List Int) : (dgB d).length = d.length := by simp [dgB]
def sDig (d : List Int) : WSt → WSt := sFix (dgB d)
def sSig (lf : Int) (cs ps : List (List Int)) (s : WSt) : WSt := sPut ps.length 5 (sAll sDig ps) (sPut cs.length 68 (sAll sDig cs) (sNum lf 1 s))
theorem adds_dig {d : List Int} (h : d.length = 16) : Adds 16 (sDig d) := (adds_fix _).mono (by rw [dgB_length, h]; exact Nat.le_refl _)
theorem adds_digs {ds : List (List Int)} (h : ∀ d ∈ ds, d.length = 16) : Adds (ds.length * 16) (sAll sDig ds) := adds_all ds fun d hd => adds_dig (h d hd)
theorem adds_sig {lf : Int} {cs ps : List (List Int)} (hc : ∀ d ∈ cs, d.length = 16) (hp : ∀ d ∈ ps, d.length = 16) : Adds 1171 (sSig lf cs ps) :=
  (((adds_num lf 1).comp (adds_put (m := 68) rfl fun _ => adds_digs hc)).comp (adds_put (m := 5) rfl fun _ => adds_digs hp)).mono (by omega)
end Go.Proofs.YthjcgdcmbedhnaaDoor
