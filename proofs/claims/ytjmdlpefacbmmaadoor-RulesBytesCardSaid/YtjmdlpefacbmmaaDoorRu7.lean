/-
  Package rules: the steps as functions of five ints; Num of every error; do and told.
-/
import Derived.Test.YtjmdlpefacbmmaaDoorRu4
import Derived.Test.YtjmdlpefacbmmaaDoorRu6
import Derived.Test.YtjmdlpefacbmmaaDoorNum
import Derived.Deep.RegionHeld3
import Derived.Deep.RegionWith
namespace Go.Proofs.YtjmdlpefacbmmaaDoor
open Go.RowKit

structure St where (e v l p f : Int)
abbrev St.val (s : St) : Value := stV s.e s.v s.l s.p s.f
structure Stp where (k ep r q g : Int)
abbrev Stp.val (x : Stp) : Value := .agg #[.int .i64 x.k, .int .i64 x.ep, .int .i64 x.r, .int .i64 x.q, .int .i64 x.g]

def voteR (s : St) (x : Stp) : St := if voteE s.e s.v s.l s.p s.f x.ep x.r x.q = 0 then ⟨s.e, x.r, voteL s.l x.q x.g, s.p, s.f + 1⟩ else s
def lateR (s : St) (x : Stp) : St := if lateE s.e s.v s.l s.p s.f x.ep x.r = 0 then ⟨s.e, lateV s.v x.r, s.l, s.p, s.f + 1⟩ else s
def propR (s : St) (x : Stp) : St := if propE s.e s.v s.l s.p s.f x.ep x.r = 0 then ⟨s.e, s.v, s.l, x.r, s.f + 1⟩ else s
def enterR (s : St) (x : Stp) : St := if enterE s.e s.v s.l s.p s.f x.ep = 0 then ⟨x.ep, 0, 0, 0, s.f⟩ else s
theorem val_if (c : Prop) [Decidable c] (a b : St) : (if c then a else b).val = if c then a.val else b.val := by split <;> rfl

def stepR (s : St) (x : Stp) : St := if x.k = 1 then voteR s x else if x.k = 2 then lateR s x else if x.k = 3 then propR s x else if x.k = 4 then enterR s x else s
def stepE (s : St) (x : Stp) : Nat :=
  if x.k = 1 then voteE s.e s.v s.l s.p s.f x.ep x.r x.q else if x.k = 2 then lateE s.e s.v s.l s.p s.f x.ep x.r else if x.k = 3 then propE s.e s.v s.l s.p s.f x.ep x.r else if x.k = 4 then enterE s.e s.v s.l s.p s.f x.ep else 0

theorem chkN_le {e v l p f ep r : Int} : chkN e v l p f ep r ≤ 18 := by unfold chkN; (repeat' split) <;> omega
theorem voteE_le {e v l p f ep r q : Int} : voteE e v l p f ep r q ≤ 18 := by
  unfold voteE
  split
  · exact chkN_le
  · (repeat' split) <;> omega
theorem lateE_le {e v l p f ep r : Int} : lateE e v l p f ep r ≤ 18 := by
  unfold lateE
  split
  · exact chkN_le
  · (repeat' split) <;> omega
theorem propE_le {e v l p f ep r : Int} : propE e v l p f ep r ≤ 18 := by
  unfold propE
  split
  · exact chkN_le
  · (repeat' split) <;> omega
theorem enterE_le {e v l p f ep : Int} : enterE e v l p f ep ≤ 18 := by unfold enterE; (repeat' split) <;> omega

section
variable (w : World) (B : Nat) (E : Nat → Addr) (he : ErrEnv w B E) (s : St) (x : Stp)
include he
theorem vote_is : Calls Tryd.prog 22 #[s.val, .int .i64 x.ep, .int .i64 x.r, .int .i64 x.q, .int .i64 x.g] w fun en w' => en = .returned (.tuple #[(voteR s x).val, evOf E (voteE s.e s.v s.l s.p s.f x.ep x.r x.q)]) ∧ w.grownBy w' none := by
  rcases h : chkN s.e s.v s.l s.p s.f x.ep x.r with _ | k
  · refine (vote_rest w B E he _ _ _ _ _ _ _ _ x.g h).mono fun en w' ⟨h1, h2⟩ => ⟨?_, h2⟩
    rw [h1, voteR, val_if]
  · have hv : voteE s.e s.v s.l s.p s.f x.ep x.r x.q = k + 1 := by simp [voteE, h]
    refine (vote_chk w B E he _ _ _ _ _ _ _ x.q x.g k h).mono fun en w' ⟨h1, h2⟩ => ⟨?_, h2⟩
    rw [h1, voteR, hv]
    rfl
theorem late_is : Calls Tryd.prog 23 #[s.val, .int .i64 x.ep, .int .i64 x.r] w fun en w' => en = .returned (.tuple #[(lateR s x).val, evOf E (lateE s.e s.v s.l s.p s.f x.ep x.r)]) ∧ w.grownBy w' none := by
  rcases h : chkN s.e s.v s.l s.p s.f x.ep x.r with _ | k
  · refine (late_rest w B E he _ _ _ _ _ _ _ h).mono fun en w' ⟨h1, h2⟩ => ⟨?_, h2⟩
    rw [h1, lateR, val_if]
  · have hv : lateE s.e s.v s.l s.p s.f x.ep x.r = k + 1 := by simp [lateE, h]
    refine (late_chk w B E he _ _ _ _ _ _ _ k h).mono fun en w' ⟨h1, h2⟩ => ⟨?_, h2⟩
    rw [h1, lateR, hv]
    rfl
theorem prop_is : Calls Tryd.prog 24 #[s.val, .int .i64 x.ep, .int .i64 x.r] w fun en w' => en = .returned (.tuple #[(propR s x).val, evOf E (propE s.e s.v s.l s.p s.f x.ep x.r)]) ∧ w.grownBy w' none := by
  rcases h : chkN s.e s.v s.l s.p s.f x.ep x.r with _ | k
  · refine (prop_rest w B E he _ _ _ _ _ _ _ h).mono fun en w' ⟨h1, h2⟩ => ⟨?_, h2⟩
    rw [h1, propR, val_if]
  · have hv : propE s.e s.v s.l s.p s.f x.ep x.r = k + 1 := by simp [propE, h]
    refine (prop_chk w B E he _ _ _ _ _ _ _ k h).mono fun en w' ⟨h1, h2⟩ => ⟨?_, h2⟩
    rw [h1, propR, hv]
    rfl
theorem enter_is' : Calls Tryd.prog 25 #[s.val, .int .i64 x.ep] w fun en w' => en = .returned (.tuple #[(enterR s x).val, evOf E (enterE s.e s.v s.l s.p s.f x.ep)]) ∧ w.grownBy w' none :=
  (enter_is w B E he _ _ _ _ _ x.ep).mono fun en w' ⟨h1, h2⟩ => ⟨by rw [h1, enterR, val_if], h2⟩
theorem num_is (k : Nat) (hk : k ≤ 18) : Calls Tryd.prog 17 #[evOf E k] w fun en w' => en = .returned (.int .i64 (k : Int)) ∧ w.grownBy w' none := by
  rcases k with _ | k
  · exact (num_nil w).mono fun en w' ⟨h1, h2⟩ => ⟨by rw [h1]; rfl, h2 ▸ World.grownBy.refl _ _⟩
  · exact (num_err w B E k (by omega) he).mono fun en w' ⟨h1, h2⟩ => ⟨by rw [h1]; rfl, h2⟩
end
end Go.Proofs.YtjmdlpefacbmmaaDoor
