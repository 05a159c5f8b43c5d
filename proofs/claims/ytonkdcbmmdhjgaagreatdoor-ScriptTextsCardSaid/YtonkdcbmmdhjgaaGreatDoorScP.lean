/-
  Scripts as lists of bytes: numbers, pieces, ops, lines, texts: what is written is read, what is read is written so. Lists and arithmetic alone.
-/
import Derived.Test.YtonkdcbmmdhjgaaGreatDoorBase
import Derived.Lib.AtoiTie
import Derived.Lib.ItoaLen
import Derived.Lib.SplitLaws
import Derived.Lib.Bytealg
namespace Go.Proofs.YtonkdcbmmdhjgaaGreatDoor

/-! ### Numbers -/
/-- The number that a text is, in its one form. -/
def numS (l : List UInt8) : Option Int :=
  match Lib.atoiAll l with
  | .ok v => if 0 ≤ v ∧ v ≤ 999999 ∧ Lib.itoa v = l then some v else none
  | _ => none

theorem decFrom_append : ∀ (l : List UInt8) (acc n : Nat) (r : List UInt8), Lib.decFrom acc l = some n → Lib.decFrom acc (l ++ r) = Lib.decFrom n r
  | [], acc, n, r, h => by simp only [Lib.decFrom, Option.some.injEq] at h; subst h; rfl
  | b :: l, acc, n, r, h => by
    simp only [Lib.decFrom, List.cons_append] at h ⊢
    cases hd : Lib.digitVal b with
    | none => simp [hd] at h
    | some d => simp only [hd] at h ⊢; exact decFrom_append l _ n r h
theorem decFrom_none_append : ∀ (l : List UInt8) (acc : Nat) (r : List UInt8), Lib.decFrom acc l = none → Lib.decFrom acc (l ++ r) = none
  | [], acc, r, h => by simp [Lib.decFrom] at h
  | b :: l, acc, r, h => by
    simp only [Lib.decFrom, List.cons_append] at h ⊢
    cases hd : Lib.digitVal b with
    | none => simp
    | some d => simp only [hd] at h ⊢; exact decFrom_none_append l _ r h
theorem digitVal_of {d : Nat} (h : d < 10) : Lib.digitVal (UInt8.ofNat (48 + d)) = some d := by
  have e : (UInt8.ofNat (48 + d)).toNat = 48 + d := by simp; omega
  unfold Lib.digitVal
  rw [if_pos (by rw [e]; omega), e]; congr 1; omega
theorem digitVal_back {b : UInt8} {d : Nat} (h : Lib.digitVal b = some d) : d < 10 ∧ b = UInt8.ofNat (48 + d) := by
  obtain ⟨h1, h2, rfl⟩ := Lib.digitVal_eq h
  refine ⟨by omega, ?_⟩
  apply UInt8.toNat_inj.1
  simp; omega
theorem decDigits_ne (n : Nat) : Lib.decDigits n ≠ [] := by
  rw [Lib.decDigits]; split <;> simp
theorem decFrom_decDigits : ∀ n : Nat, Lib.decFrom 0 (Lib.decDigits n) = some n := by
  intro n
  induction n using Nat.strongRecOn with
  | _ n ih =>
    rw [Lib.decDigits]
    split
    · next h => rw [Lib.decFrom, digitVal_of h]; simp [Lib.decFrom]
    · next h =>
      rw [decFrom_append _ _ _ _ (ih (n / 10) (by omega))]
      simp only [Lib.decFrom, digitVal_of (show n % 10 < 10 by omega)]
      congr 1; omega
theorem nDigits_le6 {n : Nat} (h : n ≤ 999999) : Lib.nDigits n ≤ 6 := by
  have key : ∀ (k m : Nat), m < 10 ^ (k + 1) → Lib.nDigits m ≤ k + 1 := by
    intro k
    induction k with
    | zero => intro m hm; rw [Lib.nDigits_small (by simpa using hm)]; exact Nat.le_refl _
    | succ k ih =>
      intro m hm
      by_cases h10 : m < 10
      · rw [Lib.nDigits_small h10]; omega
      · rw [Lib.nDigits_big h10]
        have := ih (m / 10) (by rw [Nat.pow_succ] at hm; omega)
        omega
  exact key 5 n (by have : (10:Nat) ^ 6 = 1000000 := by decide
                    omega)
theorem decDigits_digits : ∀ n : Nat, ∀ b ∈ Lib.decDigits n, 48 ≤ b.toNat ∧ b.toNat ≤ 57 := by
  intro n
  induction n using Nat.strongRecOn with
  | _ n ih =>
    intro b hb
    rw [Lib.decDigits] at hb
    split at hb
    · next h => simp only [List.mem_singleton] at hb; subst hb; simp; omega
    · next h =>
      rcases List.mem_append.1 hb with hb | hb
      · exact ih (n / 10) (by omega) b hb
      · simp only [List.mem_singleton] at hb; subst hb; simp; omega
theorem decDigits_head : ∀ n : Nat, 1 ≤ n → (Lib.decDigits n).head? ≠ some 48 := by
  intro n
  induction n using Nat.strongRecOn with
  | _ n ih =>
    intro h1
    rw [Lib.decDigits]
    split
    · next h =>
      simp only [List.head?_cons, ne_eq, Option.some.injEq]
      intro e
      have := congrArg UInt8.toNat e
      simp at this; omega
    · next h =>
      have := ih (n / 10) (by omega) (by omega)
      rw [List.head?_append]
      cases hh : (Lib.decDigits (n / 10)).head? with
      | none => exact absurd (List.head?_eq_none_iff.1 hh) (decDigits_ne _)
      | some b => rw [hh] at this; simpa using this
/-- A row of digits, with no zero ahead, is the numeral of its number. -/
theorem decDigits_of : ∀ (k : Nat) (l : List UInt8) (n : Nat), l.length = k + 1 → (k = 0 ∨ l.head? ≠ some 48) → Lib.decFrom 0 l = some n → Lib.decDigits n = l ∧ (l.head? ≠ some 48 → 1 ≤ n) := by
  intro k
  induction k with
  | zero =>
    intro l n hl _ h
    obtain ⟨b, rfl⟩ : ∃ b, l = [b] := by
      cases l with
      | nil => simp at hl
      | cons b t => cases t with | nil => exact ⟨b, rfl⟩ | cons => simp at hl
    simp only [Lib.decFrom] at h
    cases hd : Lib.digitVal b with
    | none => simp [hd] at h
    | some d =>
      simp only [hd, Option.some.injEq] at h
      obtain ⟨h10, rfl⟩ := digitVal_back hd
      have hn : n = d := by omega
      subst hn
      refine ⟨Lib.decDigits_one h10, fun hh => ?_⟩
      rcases Nat.eq_zero_or_pos n with rfl | h
      · exact absurd rfl hh
      · exact h
  | succ k ih =>
    intro l n hl hz h
    have hz' : l.head? ≠ some 48 := by rcases hz with hz | hz; omega; exact hz
    obtain ⟨r, b, rfl⟩ : ∃ r b, l = r ++ [b] := ⟨l.dropLast, l.getLast (by intro e; subst e; simp at hl), (List.dropLast_concat_getLast _).symm⟩
    have hr : r.length = k + 1 := by simpa using hl
    have hrn : r ≠ [] := by intro e; subst e; simp at hr
    have hrh : r.head? ≠ some 48 := by
      cases r with
      | nil => exact absurd rfl hrn
      | cons x y => simpa using hz'
    cases hm : Lib.decFrom 0 r with
    | none => rw [decFrom_none_append _ _ _ hm] at h; cases h
    | some m =>
      rw [decFrom_append _ _ _ _ hm] at h
      obtain ⟨e1, e2⟩ := ih r m hr (.inr hrh) hm
      have hm1 := e2 hrh
      simp only [Lib.decFrom] at h
      cases hd : Lib.digitVal b with
      | none => simp [hd] at h
      | some d =>
        simp only [hd, Option.some.injEq] at h
        obtain ⟨h10, rfl⟩ := digitVal_back hd
        subst h
        refine ⟨?_, fun _ => by omega⟩
        rw [Lib.decDigits, dif_neg (by omega)]
        rw [show (m * 10 + d) / 10 = m by omega, show (m * 10 + d) % 10 = d by omega, e1]
theorem atoiAll_digits {n : Nat} (h : n ≤ 999999) : Lib.atoiAll (Lib.decDigits n) = .ok (n : Int) := by
  have hl : (Lib.decDigits n).length ≤ 18 := by rw [Lib.decDigits_length]; have := nDigits_le6 h; omega
  rw [Lib.atoiAll_short _ hl]
  have hd := decFrom_decDigits n
  cases hc : Lib.decDigits n with
  | nil => exact absurd hc (decDigits_ne n)
  | cons b r =>
    have hb := decDigits_digits n b (by rw [hc]; simp)
    have h1 : (b == 45) = false := by
      apply beq_eq_false_iff_ne.2; rintro rfl; simp at hb
    have h2 : (b == 43) = false := by
      apply beq_eq_false_iff_ne.2; rintro rfl; simp at hb
    rw [hc] at hd
    simp [Lib.atoi, h1, h2, Lib.decNat, hd, Lib.NumEnd.ofOption]
theorem numS_iff {l : List UInt8} {v : Int} : numS l = some v ↔ ∃ n : Nat, n ≤ 999999 ∧ v = n ∧ l = Lib.decDigits n := by
  constructor
  · intro h
    unfold numS at h
    split at h
    · next u hu =>
      split at h
      · next hc =>
        simp only [Option.some.injEq] at h
        subst h
        refine ⟨u.toNat, by omega, by omega, ?_⟩
        obtain ⟨n, rfl⟩ : ∃ n : Nat, u = n := ⟨u.toNat, by omega⟩
        rw [← hc.2.2, Lib.itoa_nonneg]; rfl
      · cases h
    · cases h
  · rintro ⟨n, hn, rfl, rfl⟩
    unfold numS
    rw [atoiAll_digits hn]
    simp only []
    rw [if_pos ⟨by omega, by omega, Lib.itoa_nonneg n⟩]
/-- The document's. -/
def numR (l : List UInt8) : Option Int := if l = [] ∨ 6 < l.length ∨ (1 < l.length ∧ l.head? = some 48) then none else (Lib.decFrom 0 l).map fun (n : Nat) => (n : Int)
theorem numR_eq (l : List UInt8) : numR l = numS l := by
  apply Option.ext
  intro v
  rw [numS_iff]
  unfold numR
  constructor
  · intro h
    split at h
    · cases h
    · next hc =>
      cases hd : Lib.decFrom 0 l with
      | none => rw [hd] at h; cases h
      | some n =>
        rw [hd] at h
        simp only [Option.map_some, Option.some.injEq] at h
        have hl : l ≠ [] := fun e => hc (.inl e)
        have h6 : l.length ≤ 6 := by
          rcases Nat.lt_or_ge 6 l.length with h | h
          · exact absurd (.inr (.inl h)) hc
          · exact h
        have hpos : 0 < l.length := List.length_pos_iff.2 hl
        have hz : l.length - 1 = 0 ∨ l.head? ≠ some 48 := by
          rcases Nat.lt_or_ge 1 l.length with h1 | h1
          · exact .inr fun e => hc (.inr (.inr ⟨h1, e⟩))
          · exact .inl (by omega)
        have := (decDigits_of (l.length - 1) l n (by omega) hz hd).1
        have hlt := Lib.decFrom_lt l 0 n hd
        have hp : 10 ^ l.length ≤ 10 ^ 6 := Nat.pow_le_pow_right (by decide) h6
        have e6 : (10 : Nat) ^ 6 = 1000000 := by decide
        exact ⟨n, by omega, h.symm, this.symm⟩
  · rintro ⟨n, hn, rfl, rfl⟩
    have hlen : (Lib.decDigits n).length ≤ 6 := by rw [Lib.decDigits_length]; exact nDigits_le6 hn
    rw [if_neg ?_, decFrom_decDigits]; rfl
    rintro (h | h | ⟨h1, h2⟩)
    · exact decDigits_ne n h
    · omega
    · rcases Nat.eq_zero_or_pos n with rfl | hp
      · simp [Lib.decDigits_one] at h1
      · exact decDigits_head n hp h2
theorem numS_itoa {v : Int} : numS (Lib.itoa v) = if 0 ≤ v ∧ v ≤ 999999 then some v else none := by
  split
  · next h =>
    obtain ⟨n, rfl⟩ : ∃ n : Nat, v = n := ⟨v.toNat, by omega⟩
    rw [Lib.itoa_nonneg]
    exact numS_iff.2 ⟨n, by omega, rfl, rfl⟩
  · next h =>
    cases hs : numS (Lib.itoa v) with
    | none => rfl
    | some u =>
      obtain ⟨n, hn, rfl, he⟩ := numS_iff.1 hs
      exfalso
      rcases Int.lt_or_le v 0 with hv | hv
      · obtain ⟨m, hm, rfl⟩ : ∃ m : Nat, 1 ≤ m ∧ v = -(m : Int) := ⟨v.natAbs, by omega, by omega⟩
        rw [Lib.itoa_neg m hm] at he
        have := decDigits_digits n 45 (by rw [← he]; simp)
        simp at this
      · obtain ⟨m, rfl⟩ : ∃ m : Nat, v = m := ⟨v.toNat, by omega⟩
        rw [Lib.itoa_nonneg] at he
        have h1 := decFrom_decDigits m
        rw [he, decFrom_decDigits] at h1
        injection h1 with h1
        omega
theorem numS_len {l : List UInt8} {v : Int} (h : numS l = some v) : 1 ≤ l.length ∧ l.length ≤ 6 ∧ 0 ≤ v ∧ v ≤ 999999 ∧ Lib.itoa v = l := by
  obtain ⟨n, hn, rfl, rfl⟩ := numS_iff.1 h
  have := nDigits_le6 hn
  have h0 := List.length_pos_iff.2 (decDigits_ne n)
  refine ⟨h0, ?_, by omega, by omega, Lib.itoa_nonneg n⟩
  rw [Lib.decDigits_length]; exact this
theorem numS_digits {l : List UInt8} {v : Int} (h : numS l = some v) : ∀ b ∈ l, 48 ≤ b.toNat ∧ b.toNat ≤ 57 := by
  obtain ⟨n, hn, rfl, rfl⟩ := numS_iff.1 h
  exact decDigits_digits n

/-! ### Pieces -/
def splitP (c : UInt8) : List UInt8 → List (List UInt8)
  | [] => [[]]
  | b :: l => if b = c then [] :: splitP c l else match splitP c l with
    | [] => [[b]]
    | h :: t => (b :: h) :: t
theorem splitP_ne (c : UInt8) : ∀ l, splitP c l ≠ []
  | [] => by simp [splitP]
  | b :: l => by unfold splitP; split; simp; split <;> simp
theorem splitP_none {c : UInt8} : ∀ {l : List UInt8}, c ∉ l → splitP c l = [l]
  | [], _ => rfl
  | b :: l, h => by
    unfold splitP
    rw [if_neg (by rintro rfl; exact h (by simp)), splitP_none (fun hm => h (List.mem_cons_of_mem _ hm))]
theorem splitP_hit {c : UInt8} : ∀ {a : List UInt8}, c ∉ a → ∀ r, splitP c (a ++ c :: r) = a :: splitP c r
  | [], _, r => by simp [splitP]
  | b :: a, h, r => by
    rw [List.cons_append, splitP, if_neg (by rintro rfl; exact h (by simp)), splitP_hit (fun hm => h (List.mem_cons_of_mem _ hm))]
/-- The pieces, put together again. -/
def joinP (c : UInt8) : List (List UInt8) → List UInt8
  | [] => []
  | [p] => p
  | p :: q :: r => p ++ c :: joinP c (q :: r)
theorem joinP_splitP (c : UInt8) : ∀ l, joinP c (splitP c l) = l
  | [] => rfl
  | b :: l => by
    have ih := joinP_splitP c l
    unfold splitP
    split
    · next h =>
      subst h
      cases hs : splitP b l with
      | nil => exact absurd hs (splitP_ne b l)
      | cons p t => rw [hs] at ih; simp [joinP, ih]
    · cases hs : splitP c l with
      | nil => exact absurd hs (splitP_ne c l)
      | cons p t =>
        rw [hs] at ih
        cases t with
        | nil => simp only [joinP] at ih ⊢; rw [ih]
        | cons q r => simp only [joinP, List.cons_append] at ih ⊢; rw [ih]
theorem splitP_joinP (c : UInt8) : ∀ ps : List (List UInt8), ps ≠ [] → (∀ p ∈ ps, c ∉ p) → splitP c (joinP c ps) = ps
  | [], h, _ => absurd rfl h
  | [p], _, h => splitP_none (h p (by simp))
  | p :: q :: r, _, h => by
    rw [joinP, splitP_hit (h p (by simp)), splitP_joinP c (q :: r) (by simp) (fun x hx => h x (List.mem_cons_of_mem _ hx))]
theorem splitP_mem (c : UInt8) : ∀ l, ∀ p ∈ splitP c l, c ∉ p ∧ ∀ b ∈ p, b ∈ l
  | [], p, hp => by simp [splitP] at hp; subst hp; simp
  | b :: l, p, hp => by
    have ih := splitP_mem c l
    unfold splitP at hp
    split at hp
    · rcases List.mem_cons.1 hp with rfl | hp
      · simp
      · exact ⟨(ih p hp).1, fun x hx => List.mem_cons_of_mem _ ((ih p hp).2 x hx)⟩
    · next hb =>
      cases hs : splitP c l with
      | nil => exact absurd hs (splitP_ne c l)
      | cons q t =>
        rw [hs] at hp ih
        simp only [List.mem_cons] at hp
        rcases hp with rfl | hp
        · refine ⟨?_, ?_⟩
          · rw [List.mem_cons]; rintro (h | h)
            · exact hb h.symm
            · exact (ih q (by simp)).1 h
          · intro x hx
            rcases List.mem_cons.1 hx with rfl | hx
            · simp
            · exact List.mem_cons_of_mem _ ((ih q (by simp)).2 x hx)
        · exact ⟨(ih p (by simp [hp])).1, fun x hx => List.mem_cons_of_mem _ ((ih p (by simp [hp])).2 x hx)⟩
theorem splitP_append {c : UInt8} : ∀ (a : List UInt8) (ps : List (List UInt8)) (q : List UInt8) (b : List UInt8), splitP c a = ps ++ [q] → ∃ h t, splitP c b = h :: t ∧ splitP c (a ++ b) = ps ++ (q ++ h) :: t
  | [], ps, q, b, ha => by
    cases hb : splitP c b with
    | nil => exact absurd hb (splitP_ne c b)
    | cons h t =>
      refine ⟨h, t, rfl, ?_⟩
      have : ps = [] ∧ q = [] := by
        cases ps with
        | nil => simpa [splitP] using ha.symm
        | cons x y => simp [splitP] at ha
      obtain ⟨rfl, rfl⟩ := this
      simp [hb]
  | x :: a, ps, q, b, ha => by
    unfold splitP at ha
    split at ha
    · next hx =>
      cases ps with
      | nil => simp at ha; exact absurd ha.2 (splitP_ne c a)
      | cons p0 ps =>
        simp only [List.cons_append, List.cons.injEq] at ha
        obtain ⟨h, t, hb, hab⟩ := splitP_append a ps q b ha.2
        refine ⟨h, t, hb, ?_⟩
        rw [List.cons_append, splitP, if_pos hx, hab, ← ha.1]; rfl
    · next hx =>
      cases hs : splitP c a with
      | nil => exact absurd hs (splitP_ne c a)
      | cons p t0 =>
        rw [hs] at ha
        cases ps with
        | nil =>
          simp only [List.nil_append, List.cons.injEq] at ha
          obtain ⟨rfl, rfl⟩ := ha
          obtain ⟨h, t, hb, hab⟩ := splitP_append a [] p b (by rw [hs]; rfl)
          refine ⟨h, t, hb, ?_⟩
          rw [List.cons_append, splitP, if_neg hx, hab]; rfl
        | cons p0 ps =>
          simp only [List.cons_append, List.cons.injEq] at ha
          obtain ⟨rfl, rfl⟩ := ha
          obtain ⟨h, t, hb, hab⟩ := splitP_append a (p :: ps) q b (by rw [hs]; rfl)
          refine ⟨h, t, hb, ?_⟩
          rw [List.cons_append, splitP, if_neg hx, hab]; rfl
theorem joinP_len (c : UInt8) : ∀ ps : List (List UInt8), ps ≠ [] → (joinP c ps).length + 1 = (ps.map (·.length + 1)).sum
  | [], h => absurd rfl h
  | [p], _ => by simp [joinP]
  | p :: q :: r, _ => by
    have := joinP_len c (q :: r) (by simp)
    simp only [joinP, List.length_append, List.length_cons, List.map_cons, List.sum_cons] at this ⊢
    omega
/-! ### Ops -/
structure OpV where
  kind : Int
  node : Int
  n : Int
  set : List Int
  keep : List Bool
  data : List UInt8
def OpV.zero : OpV := ⟨0, 0, 0, [], [], []⟩

/-- A kind's word, and what belongs to it. -/
def shapeS (k : Int) : List UInt8 × List UInt8 :=
  if k = 1 then ([100, 101, 108, 105, 118, 101, 114], [110])
  else if k = 2 then ([100, 114, 111, 112], [110])
  else if k = 3 then ([99, 111, 112, 121], [110])
  else if k = 4 then ([116, 105, 99, 107], [105])
  else if k = 5 then ([115, 117, 98, 109, 105, 116], [105, 120])
  else if k = 6 then ([114, 101, 99, 111, 110, 102], [105, 112])
  else if k = 7 then ([97, 114, 109], [105, 110])
  else if k = 8 then ([99, 114, 97, 115, 104], [105, 98])
  else if k = 9 then ([114, 97, 119], [105, 120])
  else if k = 10 then ([102, 111, 114, 103, 101], [105, 110, 120])
  else ([], [])
/-- The kind of a word; 0: none. -/
def kindS (w : List UInt8) : Int :=
  if w = (shapeS 1).1 then 1 else if w = (shapeS 2).1 then 2 else if w = (shapeS 3).1 then 3 else if w = (shapeS 4).1 then 4 else if w = (shapeS 5).1 then 5
  else if w = (shapeS 6).1 then 6 else if w = (shapeS 7).1 then 7 else if w = (shapeS 8).1 then 8 else if w = (shapeS 9).1 then 9 else if w = (shapeS 10).1 then 10 else 0

def digitsL : List UInt8 := [48, 49, 50, 51, 52, 53, 54, 55, 56, 57, 97, 98, 99, 100, 101, 102]
def nibS (b : UInt8) : Int := Lib.indexByte digitsL b
def hexD (v : Nat) : UInt8 := digitsL.getD v 0
def readHex : List UInt8 → Option (List UInt8)
  | [] => some []
  | [_] => none
  | a :: b :: r => if nibS a < 0 ∨ nibS b < 0 then none else (readHex r).map fun l => UInt8.ofNat (16 * (nibS a).toNat + (nibS b).toNat) :: l
def writeHex : List UInt8 → List UInt8
  | [] => []
  | c :: r => hexD (c.toNat / 16) :: hexD (c.toNat % 16) :: writeHex r
def bytesS (t : List UInt8) : Option (List UInt8) := if t = [45] then some [] else if t = [] then none else readHex t
def numsS : List (List UInt8) → Option (List Int)
  | [] => some []
  | p :: r => match numS p with
    | none => none
    | some v => (numsS r).map fun l => v :: l
def powS (t : List UInt8) : Option (List Int) := if t = [45] then some [] else match numsS (splitP 44 t) with
  | none => none
  | some l => if l.length ≤ 7 then some l else none
def bitOk (b : UInt8) : Bool := b == 48 || b == 49
def bitsS (t : List UInt8) : Option (List Bool) := if t = [45] then some [] else if t.all bitOk ∧ 1 ≤ t.length ∧ t.length ≤ 64 then some (t.map (· == 49)) else none
/-- One of the things that belong to an op, read. -/
def readS (c : UInt8) (t : List UInt8) (o : OpV) : Option OpV :=
  if c = 105 then (numS t).map fun v => { o with node := v }
  else if c = 110 then (numS t).map fun v => { o with n := v }
  else if c = 120 then (bytesS t).map fun v => { o with data := v }
  else if c = 112 then (powS t).map fun v => { o with set := v }
  else if c = 98 then (bitsS t).map fun v => { o with keep := v }
  else none
def readAll : List UInt8 → List (List UInt8) → OpV → Option OpV
  | [], [], o => some o
  | c :: cs, t :: ts, o => (readS c t o).bind (readAll cs ts)
  | _, _, _ => none
def parseW (ws : List (List UInt8)) : Option OpV := match ws with
  | [] => none
  | w :: ts => if kindS w = 0 then none else readAll (shapeS (kindS w)).2 ts { OpV.zero with kind := kindS w }
def parseL (p : List UInt8) : Option OpV := parseW (splitP 32 p)
def parseLs : List (List UInt8) → Option (List OpV)
  | [] => none
  | [q] => if q = [] then some [] else none
  | p :: q :: r => (parseL p).bind fun o => (parseLs (q :: r)).map fun os => o :: os

def bitD (b : Bool) : UInt8 := if b then 49 else 48
def orDash (t : List UInt8) : List UInt8 := if t = [] then [45] else t
/-- One of the things that belong to an op, written. -/
def writeS (o : OpV) (c : UInt8) : List UInt8 :=
  if c = 105 then Lib.itoa o.node
  else if c = 110 then Lib.itoa o.n
  else if c = 120 then orDash (writeHex o.data)
  else if c = 112 then orDash (joinP 44 (o.set.map Lib.itoa))
  else if c = 98 then orDash (o.keep.map bitD)
  else [45]
def partOk (o : OpV) (c : UInt8) : Prop :=
  if c = 105 then 0 ≤ o.node ∧ o.node ≤ 999999
  else if c = 110 then 0 ≤ o.n ∧ o.n ≤ 999999
  else if c = 120 then True
  else if c = 112 then o.set.length ≤ 7 ∧ ∀ v ∈ o.set, 0 ≤ v ∧ v ≤ 999999
  else if c = 98 then o.keep.length ≤ 64
  else False
instance (o : OpV) (c : UInt8) : Decidable (partOk o c) := by unfold partOk; infer_instance
def putPart (o : OpV) (c : UInt8) (b : OpV) : OpV :=
  if c = 105 then { b with node := o.node }
  else if c = 110 then { b with n := o.n }
  else if c = 120 then { b with data := o.data }
  else if c = 112 then { b with set := o.set }
  else if c = 98 then { b with keep := o.keep }
  else b

theorem nib_hexD : ∀ v : Fin 16, nibS (hexD v.val) = (v.val : Int) := by decide +kernel
theorem hexD_nib : ∀ b : Fin 256, 0 ≤ nibS (UInt8.ofNat b.val) → hexD (nibS (UInt8.ofNat b.val)).toNat = UInt8.ofNat b.val ∧ nibS (UInt8.ofNat b.val) < 16 := by decide +kernel
theorem nib_back (b : UInt8) (h : 0 ≤ nibS b) : hexD (nibS b).toNat = b ∧ nibS b < 16 := by
  have := hexD_nib ⟨b.toNat, b.toNat_lt⟩
  simpa using this (by simpa using h)
theorem nib_hex {v : Nat} (h : v < 16) : nibS (hexD v) = (v : Int) := nib_hexD ⟨v, h⟩
theorem readHex_writeHex : ∀ l, readHex (writeHex l) = some l
  | [] => rfl
  | c :: r => by
    have hc := c.toNat_lt
    rw [writeHex, readHex, nib_hex (by omega), nib_hex (by omega), readHex_writeHex r]
    rw [if_neg (by omega)]
    simp only [Option.map_some, Option.some.injEq, List.cons.injEq, and_true]
    apply UInt8.toNat_inj.1
    simp; omega
theorem writeHex_readHex : ∀ (t l : List UInt8), readHex t = some l → writeHex l = t
  | [], l, h => by simp [readHex] at h; subst h; rfl
  | [_], l, h => by simp [readHex] at h
  | a :: b :: r, l, h => by
    rw [readHex] at h
    split at h
    · cases h
    · next hc =>
      cases hr : readHex r with
      | none => rw [hr] at h; cases h
      | some l' =>
        rw [hr] at h
        simp only [Option.map_some, Option.some.injEq] at h
        subst h
        obtain ⟨ha, ha'⟩ := nib_back a (by omega)
        obtain ⟨hb, hb'⟩ := nib_back b (by omega)
        rw [writeHex, writeHex_readHex r l' hr]
        have e : (UInt8.ofNat (16 * (nibS a).toNat + (nibS b).toNat)).toNat = 16 * (nibS a).toNat + (nibS b).toNat := by
          simp; omega
        rw [e, show (16 * (nibS a).toNat + (nibS b).toNat) / 16 = (nibS a).toNat by omega, show (16 * (nibS a).toNat + (nibS b).toNat) % 16 = (nibS b).toNat by omega, ha, hb]
theorem writeHex_len : ∀ l, (writeHex l).length = 2 * l.length
  | [] => rfl
  | _ :: r => by simp [writeHex, writeHex_len r]; omega
theorem hexD_byte : ∀ v : Fin 16, hexD v.val ≠ 32 ∧ hexD v.val ≠ 10 ∧ hexD v.val ≠ 45 := by decide +kernel
theorem writeHex_mem : ∀ l, ∀ b ∈ writeHex l, b ≠ 32 ∧ b ≠ 10 ∧ b ≠ 45
  | [], b, h => by simp [writeHex] at h
  | c :: r, b, h => by
    have hc := c.toNat_lt
    simp only [writeHex, List.mem_cons] at h
    rcases h with rfl | rfl | h
    · exact hexD_byte ⟨_, by omega⟩
    · exact hexD_byte ⟨_, by omega⟩
    · exact writeHex_mem r b h
theorem bytesS_write (l : List UInt8) : bytesS (orDash (writeHex l)) = some l := by
  unfold orDash
  cases l with
  | nil => rfl
  | cons c r =>
    rw [if_neg (by simp [writeHex])]
    unfold bytesS
    rw [if_neg (fun e => by have := congrArg List.length e; rw [writeHex_len] at this; simp at this; omega), if_neg (by simp [writeHex])]
    exact readHex_writeHex _
theorem bytesS_back {t l : List UInt8} (h : bytesS t = some l) : orDash (writeHex l) = t := by
  unfold bytesS at h
  split at h
  · next e => simp at h; subst h; rw [e]; rfl
  · split at h
    · cases h
    · next hn =>
      have := writeHex_readHex t l h
      unfold orDash
      rw [this, if_neg hn]
theorem numsS_itoa : ∀ l : List Int, numsS (l.map Lib.itoa) = if ∀ v ∈ l, 0 ≤ v ∧ v ≤ 999999 then some l else none
  | [] => by simp [numsS]
  | v :: r => by
    rw [List.map_cons, numsS, numS_itoa, numsS_itoa r]
    by_cases hv : 0 ≤ v ∧ v ≤ 999999
    · rw [if_pos hv]
      by_cases hr : ∀ v ∈ r, 0 ≤ v ∧ v ≤ 999999
      · rw [if_pos hr, if_pos (by simpa [hv] using hr)]; rfl
      · rw [if_neg hr, if_neg (fun h => hr fun x hx => h x (List.mem_cons_of_mem _ hx))]; rfl
    · have hn : ¬ ∀ x ∈ v :: r, 0 ≤ x ∧ x ≤ 999999 := fun h => hv (h v List.mem_cons_self)
      rw [if_neg hv, if_neg hn]
theorem itoa_mem (v : Int) : ∀ b ∈ Lib.itoa v, b = 45 ∨ (48 ≤ b.toNat ∧ b.toNat ≤ 57) := by
  intro b hb
  unfold Lib.itoa at hb
  split at hb
  · rcases List.mem_cons.1 hb with rfl | hb
    · exact .inl rfl
    · exact .inr (decDigits_digits _ b hb)
  · exact .inr (decDigits_digits _ b hb)
theorem itoa_ne (v : Int) : Lib.itoa v ≠ [] := by
  unfold Lib.itoa; split; simp; exact decDigits_ne _
theorem not_itoa {v : Int} {c : UInt8} (h1 : c ≠ 45) (h2 : c.toNat < 48) : c ∉ Lib.itoa v := fun h => by
  rcases itoa_mem v c h with h | h
  · exact h1 h
  · omega
theorem joinP_ne {c : UInt8} : ∀ {ps : List (List UInt8)}, ps ≠ [] → (∀ p ∈ ps, p ≠ []) → joinP c ps ≠ []
  | [], h, _ => absurd rfl h
  | [p], _, h => h p (by simp)
  | p :: q :: r, _, _ => by simp [joinP]
theorem dash_not_itoa (v : Int) : Lib.itoa v ≠ [45] := by
  unfold Lib.itoa
  split
  · intro e
    simp only [List.cons.injEq, true_and] at e
    exact decDigits_ne _ e
  · intro e
    have := decDigits_digits v.toNat 45 (by rw [e]; simp)
    simp at this
theorem powS_write (l : List Int) : powS (orDash (joinP 44 (l.map Lib.itoa))) = if l.length ≤ 7 ∧ ∀ v ∈ l, 0 ≤ v ∧ v ≤ 999999 then some l else none := by
  cases l with
  | nil => simp [joinP, orDash, powS]
  | cons v r =>
    have hne : joinP 44 ((v :: r).map Lib.itoa) ≠ [] := joinP_ne (by simp) (by intro p hp; obtain ⟨x, _, rfl⟩ := List.mem_map.1 hp; exact itoa_ne x)
    have hd : joinP 44 ((v :: r).map Lib.itoa) ≠ [45] := by
      cases r with
      | nil => exact dash_not_itoa v
      | cons u r =>
        intro e
        have := congrArg List.length e
        have h1 := List.length_pos_iff.2 (itoa_ne v)
        have h2 := List.length_pos_iff.2 (joinP_ne (c := 44) (ps := (u :: r).map Lib.itoa) (by simp) (by intro p hp; obtain ⟨x, _, rfl⟩ := List.mem_map.1 hp; exact itoa_ne x))
        simp only [List.map_cons, joinP, List.length_append, List.length_cons] at this h2
        simp at this; omega
    unfold orDash
    rw [if_neg hne, powS, if_neg hd, splitP_joinP 44 _ (by simp) (by intro p hp; obtain ⟨x, _, rfl⟩ := List.mem_map.1 hp; exact not_itoa (by decide) (by decide)), numsS_itoa]
    by_cases hv : ∀ x ∈ v :: r, 0 ≤ x ∧ x ≤ 999999
    · rw [if_pos hv]
      by_cases hl : (v :: r).length ≤ 7
      · simp only []; rw [if_pos hl, if_pos ⟨hl, hv⟩]
      · simp only []; rw [if_neg hl, if_neg (fun h => hl h.1)]
    · rw [if_neg hv, if_neg (fun h => hv h.2)]
theorem numsS_back : ∀ (ps : List (List UInt8)) (l : List Int), numsS ps = some l → l.map Lib.itoa = ps ∧ ∀ v ∈ l, 0 ≤ v ∧ v ≤ 999999
  | [], l, h => by simp [numsS] at h; subst h; simp
  | p :: r, l, h => by
    rw [numsS] at h
    cases hp : numS p with
    | none => rw [hp] at h; cases h
    | some v =>
      rw [hp] at h
      cases hr : numsS r with
      | none => rw [hr] at h; cases h
      | some l' =>
        rw [hr] at h
        simp only [Option.map_some, Option.some.injEq] at h
        subst h
        obtain ⟨e, hv⟩ := numsS_back r l' hr
        obtain ⟨_, _, h3, h4, h5⟩ := numS_len hp
        refine ⟨by rw [List.map_cons, h5, e], ?_⟩
        intro x hx
        rcases List.mem_cons.1 hx with rfl | hx
        · exact ⟨h3, h4⟩
        · exact hv x hx
theorem powS_back {t : List UInt8} {l : List Int} (h : powS t = some l) : orDash (joinP 44 (l.map Lib.itoa)) = t ∧ l.length ≤ 7 ∧ ∀ v ∈ l, 0 ≤ v ∧ v ≤ 999999 := by
  unfold powS at h
  split at h
  · next e => simp at h; subst h; rw [e]; simp [joinP, orDash]
  · split at h
    · cases h
    · next l' hl' =>
      split at h
      · next h7 =>
        simp only [Option.some.injEq] at h
        subst h
        obtain ⟨e, hv⟩ := numsS_back _ _ hl'
        refine ⟨?_, h7, hv⟩
        rw [e, joinP_splitP]
        unfold orDash
        rw [if_neg]
        rintro rfl
        simp [splitP, numsS, numS, Lib.atoiAll] at hl'
      · cases h
theorem bitsS_write (l : List Bool) : bitsS (orDash (l.map bitD)) = if l.length ≤ 64 then some l else none := by
  cases l with
  | nil => simp [orDash, bitsS]
  | cons b r =>
    have hm : ∀ l : List Bool, (l.map bitD).map (· == 49) = l := by
      intro l; rw [List.map_map]; conv => rhs; rw [← List.map_id l]
      apply List.map_congr_left; intro x _; cases x <;> rfl
    have ha : ∀ l : List Bool, (l.map bitD).all bitOk = true := by
      intro l; rw [List.all_map]; apply List.all_eq_true.2; intro x _; cases x <;> rfl
    have hd : ((b :: r).map bitD) ≠ [45] := by
      rw [List.map_cons]; intro e; injection e with e _; cases b <;> cases e
    unfold orDash
    rw [if_neg (by simp), bitsS, if_neg hd, ha, hm, List.length_map]
    by_cases h : (b :: r).length ≤ 64
    · rw [if_pos h, if_pos ⟨rfl, by simp, h⟩]
    · rw [if_neg h, if_neg (fun q => h q.2.2)]
theorem bitsS_back {t : List UInt8} {l : List Bool} (h : bitsS t = some l) : orDash (l.map bitD) = t ∧ l.length ≤ 64 := by
  unfold bitsS at h
  split at h
  · next e => simp at h; subst h; rw [e]; simp [orDash]
  · split at h
    · next hc =>
      simp only [Option.some.injEq] at h
      subst h
      refine ⟨?_, by simpa using hc.2.2⟩
      have e : (t.map (· == 49)).map bitD = t := by
        rw [List.map_map]; conv => rhs; rw [← List.map_id t]
        apply List.map_congr_left
        intro x hx
        have := List.all_eq_true.1 hc.1 x hx
        simp only [bitOk, Bool.or_eq_true, beq_iff_eq] at this
        rcases this with rfl | rfl <;> rfl
      rw [e]
      unfold orDash
      rw [if_neg (by intro e; rw [e] at hc; simp at hc)]
    · cases h
theorem readS_writeS (o : OpV) (c : UInt8) (b : OpV) : readS c (writeS o c) b = if partOk o c then some (putPart o c b) else none := by
  unfold readS writeS partOk putPart
  split
  · rw [numS_itoa]; split <;> simp
  · split
    · rw [numS_itoa]; split <;> simp
    · split
      · rw [bytesS_write]; simp
      · split
        · rw [powS_write]; split <;> simp
        · split
          · rw [bitsS_write]; split <;> simp
          · simp
theorem readS_back {c : UInt8} {t : List UInt8} {o o' : OpV} (h : readS c t o = some o') :
    (c = 105 ∧ ∃ v, o' = { o with node := v } ∧ (0 ≤ v ∧ v ≤ 999999) ∧ Lib.itoa v = t) ∨
    (c = 110 ∧ ∃ v, o' = { o with n := v } ∧ (0 ≤ v ∧ v ≤ 999999) ∧ Lib.itoa v = t) ∨
    (c = 120 ∧ ∃ v, o' = { o with data := v } ∧ orDash (writeHex v) = t) ∨
    (c = 112 ∧ ∃ v, o' = { o with set := v } ∧ (v.length ≤ 7 ∧ ∀ x ∈ v, 0 ≤ x ∧ x ≤ 999999) ∧ orDash (joinP 44 (v.map Lib.itoa)) = t) ∨
    (c = 98 ∧ ∃ v, o' = { o with keep := v } ∧ v.length ≤ 64 ∧ orDash (v.map bitD) = t) := by
  unfold readS at h
  by_cases h1 : c = 105
  · rw [if_pos h1] at h
    obtain ⟨v, hv, rfl⟩ := Option.map_eq_some_iff.1 h
    obtain ⟨_, _, h3, h4, h5⟩ := numS_len hv
    exact .inl ⟨h1, v, rfl, ⟨h3, h4⟩, h5⟩
  rw [if_neg h1] at h
  by_cases h2 : c = 110
  · rw [if_pos h2] at h
    obtain ⟨v, hv, rfl⟩ := Option.map_eq_some_iff.1 h
    obtain ⟨_, _, h3, h4, h5⟩ := numS_len hv
    exact .inr (.inl ⟨h2, v, rfl, ⟨h3, h4⟩, h5⟩)
  rw [if_neg h2] at h
  by_cases h3 : c = 120
  · rw [if_pos h3] at h
    obtain ⟨v, hv, rfl⟩ := Option.map_eq_some_iff.1 h
    exact .inr (.inr (.inl ⟨h3, v, rfl, bytesS_back hv⟩))
  rw [if_neg h3] at h
  by_cases h4 : c = 112
  · rw [if_pos h4] at h
    obtain ⟨v, hv, rfl⟩ := Option.map_eq_some_iff.1 h
    exact .inr (.inr (.inr (.inl ⟨h4, v, rfl, (powS_back hv).2, (powS_back hv).1⟩)))
  rw [if_neg h4] at h
  by_cases h5 : c = 98
  · rw [if_pos h5] at h
    obtain ⟨v, hv, rfl⟩ := Option.map_eq_some_iff.1 h
    exact .inr (.inr (.inr (.inr ⟨h5, v, rfl, (bitsS_back hv).2, (bitsS_back hv).1⟩)))
  · rw [if_neg h5] at h; cases h

/-! ### Lines and texts -/
def lineGo (o : OpV) : List UInt8 → OpV → List UInt8 → Option (List UInt8)
  | [], _, acc => some acc
  | c :: cs, back, acc => match readS c (writeS o c) back with
    | none => none
    | some b => lineGo o cs b (acc ++ 32 :: writeS o c)
/-- An op's line. -/
def lineS (o : OpV) : Option (List UInt8) := if (shapeS o.kind).1 = [] then none else lineGo o (shapeS o.kind).2 OpV.zero (shapeS o.kind).1
def lineT (o : OpV) : List UInt8 := joinP 32 ((shapeS o.kind).1 :: (shapeS o.kind).2.map (writeS o))
def rightS (o : OpV) : Prop := (shapeS o.kind).1 ≠ [] ∧ ∀ c ∈ (shapeS o.kind).2, partOk o c
instance (o : OpV) : Decidable (rightS o) := by unfold rightS; infer_instance
/-- An op with what belongs to its kind alone. -/
def plainS (o : OpV) : OpV := (shapeS o.kind).2.foldl (fun b c => putPart o c b) { OpV.zero with kind := o.kind }

theorem joinP_snoc (c : UInt8) (p : List UInt8) : ∀ (ps : List (List UInt8)), ps ≠ [] → joinP c (ps ++ [p]) = joinP c ps ++ c :: p
  | [], h => absurd rfl h
  | [q], _ => rfl
  | q :: r :: t, _ => by
    have := joinP_snoc c p (r :: t) (by simp)
    simp only [List.cons_append, joinP, List.append_assoc] at this ⊢
    rw [this]
theorem lineGo_eq (o : OpV) : ∀ (cs : List UInt8) (b : OpV) (ps : List (List UInt8)), ps ≠ [] → lineGo o cs b (joinP 32 ps) = if ∀ c ∈ cs, partOk o c then some (joinP 32 (ps ++ cs.map (writeS o))) else none
  | [], b, ps, _ => by simp [lineGo]
  | c :: cs, b, ps, hp => by
    rw [lineGo, readS_writeS]
    by_cases hc : partOk o c
    · rw [if_pos hc]
      simp only []
      rw [← joinP_snoc 32 _ ps hp, lineGo_eq o cs _ _ (by simp), List.map_cons]
      by_cases h : ∀ c ∈ cs, partOk o c
      · rw [if_pos h, if_pos (by simpa [hc] using h), List.append_assoc]; rfl
      · rw [if_neg h, if_neg (fun q => h fun x hx => q x (List.mem_cons_of_mem _ hx))]
    · rw [if_neg hc, if_neg (fun q => hc (q c (by simp)))]
theorem lineS_eq (o : OpV) : lineS o = if rightS o then some (lineT o) else none := by
  by_cases h : (shapeS o.kind).1 = []
  · have hn : ¬ rightS o := fun q => q.1 h
    rw [if_neg hn]; unfold lineS; rw [if_pos h]
  · have := lineGo_eq o (shapeS o.kind).2 OpV.zero [(shapeS o.kind).1] (by simp)
    simp only [joinP, List.cons_append, List.nil_append] at this
    unfold lineS lineT
    rw [if_neg h, this]
    by_cases hp : ∀ c ∈ (shapeS o.kind).2, partOk o c
    · have hr : rightS o := ⟨h, hp⟩
      rw [if_pos hp, if_pos hr]
    · have hr : ¬ rightS o := fun q => hp q.2
      rw [if_neg hp, if_neg hr]
theorem shape_cases (k : Int) : (k = 1 ∨ k = 2 ∨ k = 3 ∨ k = 4 ∨ k = 5 ∨ k = 6 ∨ k = 7 ∨ k = 8 ∨ k = 9 ∨ k = 10) ∨ ((¬ (1 ≤ k ∧ k ≤ 10)) ∧ shapeS k = ([], [])) := by
  by_cases h : 1 ≤ k ∧ k ≤ 10
  · left; omega
  · right
    refine ⟨h, ?_⟩
    unfold shapeS
    rw [if_neg (by omega), if_neg (by omega), if_neg (by omega), if_neg (by omega), if_neg (by omega), if_neg (by omega), if_neg (by omega), if_neg (by omega), if_neg (by omega), if_neg (by omega)]
theorem kindS_shape {k : Int} (h : (shapeS k).1 ≠ []) : kindS (shapeS k).1 = k ∧ k ≠ 0 := by
  rcases shape_cases k with (rfl | rfl | rfl | rfl | rfl | rfl | rfl | rfl | rfl | rfl) | ⟨_, h2⟩
  iterate 10 · exact ⟨by decide, by decide⟩
  · rw [h2] at h; exact absurd rfl h
theorem kindS_back {w : List UInt8} (h : kindS w ≠ 0) : (shapeS (kindS w)).1 = w ∧ w ≠ [] := by
  unfold kindS at h ⊢
  by_cases h1 : w = (shapeS 1).1
  · subst h1; exact ⟨rfl, by decide⟩
  rw [if_neg h1] at h ⊢
  by_cases h2 : w = (shapeS 2).1
  · subst h2; exact ⟨rfl, by decide⟩
  rw [if_neg h2] at h ⊢
  by_cases h3 : w = (shapeS 3).1
  · subst h3; exact ⟨rfl, by decide⟩
  rw [if_neg h3] at h ⊢
  by_cases h4 : w = (shapeS 4).1
  · subst h4; exact ⟨rfl, by decide⟩
  rw [if_neg h4] at h ⊢
  by_cases h5 : w = (shapeS 5).1
  · subst h5; exact ⟨rfl, by decide⟩
  rw [if_neg h5] at h ⊢
  by_cases h6 : w = (shapeS 6).1
  · subst h6; exact ⟨rfl, by decide⟩
  rw [if_neg h6] at h ⊢
  by_cases h7 : w = (shapeS 7).1
  · subst h7; exact ⟨rfl, by decide⟩
  rw [if_neg h7] at h ⊢
  by_cases h8 : w = (shapeS 8).1
  · subst h8; exact ⟨rfl, by decide⟩
  rw [if_neg h8] at h ⊢
  by_cases h9 : w = (shapeS 9).1
  · subst h9; exact ⟨rfl, by decide⟩
  rw [if_neg h9] at h ⊢
  by_cases h10 : w = (shapeS 10).1
  · subst h10; exact ⟨rfl, by decide⟩
  rw [if_neg h10] at h
  exact absurd rfl h
theorem readAll_write (o : OpV) : ∀ (cs : List UInt8) (b : OpV), (∀ c ∈ cs, partOk o c) → readAll cs (cs.map (writeS o)) b = some (cs.foldl (fun b c => putPart o c b) b)
  | [], b, _ => rfl
  | c :: cs, b, h => by
    rw [List.map_cons, readAll, readS_writeS, if_pos (h c (by simp))]
    exact readAll_write o cs _ fun x hx => h x (List.mem_cons_of_mem _ hx)
theorem joinP_mem {c : UInt8} : ∀ {ps : List (List UInt8)} {b : UInt8}, b ∈ joinP c ps → b = c ∨ ∃ p ∈ ps, b ∈ p
  | [], b, h => by simp [joinP] at h
  | [p], b, h => .inr ⟨p, by simp, h⟩
  | p :: q :: r, b, h => by
    rw [joinP] at h
    rcases List.mem_append.1 h with h | h
    · exact .inr ⟨p, by simp, h⟩
    · rcases List.mem_cons.1 h with h | h
      · exact .inl h
      · rcases joinP_mem h with h | ⟨p', hp, hb⟩
        · exact .inl h
        · exact .inr ⟨p', List.mem_cons_of_mem _ hp, hb⟩
theorem orDash_mem {t : List UInt8} {b : UInt8} (h : b ∈ orDash t) : b = 45 ∨ b ∈ t := by
  unfold orDash at h
  split at h
  · exact .inl (by simpa using h)
  · exact .inr h
theorem writeS_mem (o : OpV) (c : UInt8) : ∀ b ∈ writeS o c, b ≠ 32 ∧ b ≠ 10 := by
  have hi : ∀ (v : Int) (b : UInt8), b ∈ Lib.itoa v → b ≠ 32 ∧ b ≠ 10 := fun v b hb => by
    rcases itoa_mem v b hb with rfl | h
    · decide
    · exact ⟨by rintro rfl; simp at h, by rintro rfl; simp at h⟩
  intro b hb
  unfold writeS at hb
  split at hb
  · exact hi _ b hb
  split at hb
  · exact hi _ b hb
  split at hb
  · rcases orDash_mem hb with rfl | hb
    · decide
    · exact ⟨(writeHex_mem _ b hb).1, (writeHex_mem _ b hb).2.1⟩
  split at hb
  · rcases orDash_mem hb with rfl | hb
    · decide
    · rcases joinP_mem hb with rfl | ⟨p, hp, hb⟩
      · decide
      · obtain ⟨v, _, rfl⟩ := List.mem_map.1 hp
        exact hi v b hb
  split at hb
  · rcases orDash_mem hb with rfl | hb
    · decide
    · obtain ⟨v, _, rfl⟩ := List.mem_map.1 hb
      cases v <;> decide
  · simp only [List.mem_singleton] at hb; subst hb; decide
theorem word_mem (k : Int) : ∀ b ∈ (shapeS k).1, b ≠ 32 ∧ b ≠ 10 := by
  rcases shape_cases k with (rfl | rfl | rfl | rfl | rfl | rfl | rfl | rfl | rfl | rfl) | ⟨_, h2⟩
  iterate 10 · decide
  · rw [h2]; simp
theorem lineT_no10 (o : OpV) : (10 : UInt8) ∉ lineT o := fun h => by
  rcases joinP_mem h with h | ⟨p, hp, hb⟩
  · cases h
  · rcases List.mem_cons.1 hp with rfl | hp
    · exact (word_mem _ _ hb).2 rfl
    · obtain ⟨c, _, rfl⟩ := List.mem_map.1 hp
      exact (writeS_mem _ _ _ hb).2 rfl
/-- A line that is written is read as the op, without what doesn't belong to its kind. -/
theorem parseL_line {o : OpV} (h : rightS o) : parseL (lineT o) = some (plainS o) := by
  unfold parseL lineT
  rw [splitP_joinP 32 _ (by simp) (by
    intro p hp hb
    rcases List.mem_cons.1 hp with rfl | hp
    · exact (word_mem _ _ hb).1 rfl
    · obtain ⟨c, _, rfl⟩ := List.mem_map.1 hp
      exact (writeS_mem _ _ _ hb).1 rfl)]
  obtain ⟨hk, hk0⟩ := kindS_shape h.1
  unfold parseW
  simp only []
  rw [hk, if_neg hk0, readAll_write o _ _ h.2]; rfl
theorem readAll_back : ∀ (k : Int) (ts : List (List UInt8)) (o : OpV), readAll (shapeS k).2 ts { OpV.zero with kind := k } = some o → (shapeS k).1 ≠ [] → o.kind = k ∧ rightS o ∧ plainS o = o ∧ (shapeS k).2.map (writeS o) = ts := by
  intro k ts o h hne
  have two : ∀ {c d : UInt8} {b : OpV}, readAll [c, d] ts b = some o → ∃ s t b1, ts = [s, t] ∧ readS c s b = some b1 ∧ readS d t b1 = some o := by
    intro c d b h
    cases ts with
    | nil => cases h
    | cons s r =>
      rw [readAll] at h
      obtain ⟨b1, h1, h2⟩ := Option.bind_eq_some_iff.1 h
      cases r with
      | nil => cases h2
      | cons t r =>
        rw [readAll] at h2
        obtain ⟨b2, h3, h4⟩ := Option.bind_eq_some_iff.1 h2
        cases r with
        | nil => simp only [readAll, Option.some.injEq] at h4; subst h4; exact ⟨s, t, b1, rfl, h1, h3⟩
        | cons _ _ => cases h4
  have one : ∀ {c : UInt8} {b : OpV}, readAll [c] ts b = some o → ∃ s, ts = [s] ∧ readS c s b = some o := by
    intro c b h
    cases ts with
    | nil => cases h
    | cons s r =>
      rw [readAll] at h
      obtain ⟨b1, h1, h2⟩ := Option.bind_eq_some_iff.1 h
      cases r with
      | nil => simp only [readAll, Option.some.injEq] at h2; subst h2; exact ⟨s, rfl, h1⟩
      | cons _ _ => cases h2
  have three : ∀ {c d e : UInt8} {b : OpV}, readAll [c, d, e] ts b = some o → ∃ s t u b1 b2, ts = [s, t, u] ∧ readS c s b = some b1 ∧ readS d t b1 = some b2 ∧ readS e u b2 = some o := by
    intro c d e b h
    cases ts with
    | nil => cases h
    | cons s r =>
      rw [readAll] at h
      obtain ⟨b1, h1, h2⟩ := Option.bind_eq_some_iff.1 h
      cases r with
      | nil => cases h2
      | cons t r =>
        rw [readAll] at h2
        obtain ⟨b2, h3, h4⟩ := Option.bind_eq_some_iff.1 h2
        cases r with
        | nil => cases h4
        | cons u r =>
          rw [readAll] at h4
          obtain ⟨b3, h5, h6⟩ := Option.bind_eq_some_iff.1 h4
          cases r with
          | nil => simp only [readAll, Option.some.injEq] at h6; subst h6; exact ⟨s, t, u, b1, b2, rfl, h1, h3, h5⟩
          | cons _ _ => cases h6
  have ri : ∀ {t : List UInt8} {b b' : OpV}, readS 105 t b = some b' → ∃ v, b' = { b with node := v } ∧ (0 ≤ v ∧ v ≤ 999999) ∧ Lib.itoa v = t := fun h => by
    rcases readS_back h with ⟨_, h⟩ | ⟨e, _⟩ | ⟨e, _⟩ | ⟨e, _⟩ | ⟨e, _⟩
    · exact h
    all_goals (exfalso; revert e; decide)
  have rn : ∀ {t : List UInt8} {b b' : OpV}, readS 110 t b = some b' → ∃ v, b' = { b with n := v } ∧ (0 ≤ v ∧ v ≤ 999999) ∧ Lib.itoa v = t := fun h => by
    rcases readS_back h with ⟨e, _⟩ | ⟨_, h⟩ | ⟨e, _⟩ | ⟨e, _⟩ | ⟨e, _⟩
    · exfalso; revert e; decide
    · exact h
    all_goals (exfalso; revert e; decide)
  have rx : ∀ {t : List UInt8} {b b' : OpV}, readS 120 t b = some b' → ∃ v, b' = { b with data := v } ∧ orDash (writeHex v) = t := fun h => by
    rcases readS_back h with ⟨e, _⟩ | ⟨e, _⟩ | ⟨_, h⟩ | ⟨e, _⟩ | ⟨e, _⟩
    · exfalso; revert e; decide
    · exfalso; revert e; decide
    · exact h
    all_goals (exfalso; revert e; decide)
  have rp : ∀ {t : List UInt8} {b b' : OpV}, readS 112 t b = some b' → ∃ v, b' = { b with set := v } ∧ (v.length ≤ 7 ∧ ∀ x ∈ v, 0 ≤ x ∧ x ≤ 999999) ∧ orDash (joinP 44 (v.map Lib.itoa)) = t := fun h => by
    rcases readS_back h with ⟨e, _⟩ | ⟨e, _⟩ | ⟨e, _⟩ | ⟨_, h⟩ | ⟨e, _⟩
    · exfalso; revert e; decide
    · exfalso; revert e; decide
    · exfalso; revert e; decide
    · exact h
    · exfalso; revert e; decide
  have rb : ∀ {t : List UInt8} {b b' : OpV}, readS 98 t b = some b' → ∃ v, b' = { b with keep := v } ∧ v.length ≤ 64 ∧ orDash (v.map bitD) = t := fun h => by
    rcases readS_back h with ⟨e, _⟩ | ⟨e, _⟩ | ⟨e, _⟩ | ⟨e, _⟩ | ⟨_, h⟩
    · exfalso; revert e; decide
    · exfalso; revert e; decide
    · exfalso; revert e; decide
    · exfalso; revert e; decide
    · exact h
  rcases shape_cases k with (rfl | rfl | rfl | rfl | rfl | rfl | rfl | rfl | rfl | rfl) | ⟨_, h2⟩
  iterate 3
    · obtain ⟨s, rfl, h1⟩ := one (show readAll [110] ts _ = some o from h)
      obtain ⟨v, rfl, hv, hw⟩ := rn h1
      refine ⟨rfl, ⟨hne, ?_⟩, rfl, ?_⟩
      · intro c hc; obtain rfl : c = 110 := by simpa [shapeS] using hc
        exact hv
      · simp [shapeS, writeS, hw]
  · obtain ⟨s, rfl, h1⟩ := one (show readAll [105] ts _ = some o from h)
    obtain ⟨v, rfl, hv, hw⟩ := ri h1
    refine ⟨rfl, ⟨hne, ?_⟩, rfl, ?_⟩
    · intro c hc; obtain rfl : c = 105 := by simpa [shapeS] using hc
      exact hv
    · simp [shapeS, writeS, hw]
  · obtain ⟨s, t, b1, rfl, h1, h2⟩ := two (show readAll [105, 120] ts _ = some o from h)
    obtain ⟨v, rfl, hv, hw⟩ := ri h1
    obtain ⟨u, rfl, hw2⟩ := rx h2
    refine ⟨rfl, ⟨hne, ?_⟩, rfl, ?_⟩
    · intro c hc
      rcases (show c = 105 ∨ c = 120 by simpa [shapeS] using hc) with rfl | rfl
      · exact hv
      · trivial
    · simp [shapeS, writeS, hw, hw2]
  · obtain ⟨s, t, b1, rfl, h1, h2⟩ := two (show readAll [105, 112] ts _ = some o from h)
    obtain ⟨v, rfl, hv, hw⟩ := ri h1
    obtain ⟨u, rfl, hv2, hw2⟩ := rp h2
    refine ⟨rfl, ⟨hne, ?_⟩, rfl, ?_⟩
    · intro c hc
      rcases (show c = 105 ∨ c = 112 by simpa [shapeS] using hc) with rfl | rfl
      · exact hv
      · exact hv2
    · simp [shapeS, writeS, hw, hw2]
  · obtain ⟨s, t, b1, rfl, h1, h2⟩ := two (show readAll [105, 110] ts _ = some o from h)
    obtain ⟨v, rfl, hv, hw⟩ := ri h1
    obtain ⟨u, rfl, hv2, hw2⟩ := rn h2
    refine ⟨rfl, ⟨hne, ?_⟩, rfl, ?_⟩
    · intro c hc
      rcases (show c = 105 ∨ c = 110 by simpa [shapeS] using hc) with rfl | rfl
      · exact hv
      · exact hv2
    · simp [shapeS, writeS, hw, hw2]
  · obtain ⟨s, t, b1, rfl, h1, h2⟩ := two (show readAll [105, 98] ts _ = some o from h)
    obtain ⟨v, rfl, hv, hw⟩ := ri h1
    obtain ⟨u, rfl, hv2, hw2⟩ := rb h2
    refine ⟨rfl, ⟨hne, ?_⟩, rfl, ?_⟩
    · intro c hc
      rcases (show c = 105 ∨ c = 98 by simpa [shapeS] using hc) with rfl | rfl
      · exact hv
      · exact hv2
    · simp [shapeS, writeS, hw, hw2]
  · obtain ⟨s, t, b1, rfl, h1, h2⟩ := two (show readAll [105, 120] ts _ = some o from h)
    obtain ⟨v, rfl, hv, hw⟩ := ri h1
    obtain ⟨u, rfl, hw2⟩ := rx h2
    refine ⟨rfl, ⟨hne, ?_⟩, rfl, ?_⟩
    · intro c hc
      rcases (show c = 105 ∨ c = 120 by simpa [shapeS] using hc) with rfl | rfl
      · exact hv
      · trivial
    · simp [shapeS, writeS, hw, hw2]
  · obtain ⟨s, t, z, b1, b2, rfl, h1, h2, h3⟩ := three (show readAll [105, 110, 120] ts _ = some o from h)
    obtain ⟨v, rfl, hv, hw⟩ := ri h1
    obtain ⟨u, rfl, hv2, hw2⟩ := rn h2
    obtain ⟨y, rfl, hw3⟩ := rx h3
    refine ⟨rfl, ⟨hne, ?_⟩, rfl, ?_⟩
    · intro c hc
      rcases (show c = 105 ∨ c = 110 ∨ c = 120 by simpa [shapeS] using hc) with rfl | rfl | rfl
      · exact hv
      · exact hv2
      · trivial
    · simp [shapeS, writeS, hw, hw2, hw3]
  · rw [h2] at hne; exact absurd rfl hne
/-- A line that is read is the op's line. -/
theorem parseL_back {p : List UInt8} {o : OpV} (h : parseL p = some o) : rightS o ∧ plainS o = o ∧ lineT o = p := by
  unfold parseL at h
  cases hs : splitP 32 p with
  | nil => exact absurd hs (splitP_ne _ _)
  | cons w ts =>
    rw [hs] at h
    unfold parseW at h
    simp only [] at h
    split at h
    · cases h
    · next hk =>
      obtain ⟨e, hw⟩ := kindS_back hk
      obtain ⟨hko, hr, hp, ht⟩ := readAll_back _ _ _ h (by rw [e]; exact hw)
      refine ⟨hr, hp, ?_⟩
      unfold lineT
      rw [hko, e, ht, ← hs, joinP_splitP]
/-- What the lines of a text come to. -/
def textT : List OpV → List UInt8
  | [] => []
  | o :: r => lineT o ++ 10 :: textT r
theorem parseLs_text : ∀ os : List OpV, (∀ o ∈ os, rightS o) → parseLs (splitP 10 (textT os)) = some (os.map plainS)
  | [], _ => rfl
  | o :: r, h => by
    rw [textT, splitP_hit (lineT_no10 o)]
    cases hs : splitP 10 (textT r) with
    | nil => exact absurd hs (splitP_ne _ _)
    | cons q t =>
      have := parseLs_text r fun x hx => h x (List.mem_cons_of_mem _ hx)
      rw [hs] at this
      rw [parseLs, parseL_line (h o (by simp)), this]; rfl
theorem parseLs_back : ∀ (ps : List (List UInt8)) (os : List OpV), parseLs ps = some os → textT os = joinP 10 ps ∧ ∀ o ∈ os, rightS o ∧ plainS o = o
  | [], os, h => by cases h
  | [q], os, h => by
    rw [parseLs] at h
    split at h
    · next e => simp at h; subst h; subst e; exact ⟨rfl, by simp⟩
    · cases h
  | p :: q :: r, os, h => by
    rw [parseLs] at h
    obtain ⟨o, h1, h2⟩ := Option.bind_eq_some_iff.1 h
    obtain ⟨os', h3, rfl⟩ := Option.map_eq_some_iff.1 h2
    obtain ⟨e, hr⟩ := parseLs_back (q :: r) os' h3
    obtain ⟨h4, h5, h6⟩ := parseL_back h1
    refine ⟨by rw [textT, h6, e]; rfl, ?_⟩
    intro x hx
    rcases List.mem_cons.1 hx with rfl | hx
    · exact ⟨h4, h5⟩
    · exact hr x hx
theorem parseLs_back' {l : List UInt8} {os : List OpV} (h : parseLs (splitP 10 l) = some os) : textT os = l ∧ ∀ o ∈ os, rightS o ∧ plainS o = o := by
  have := parseLs_back _ _ h
  rwa [joinP_splitP] at this
theorem textT_append : ∀ a b : List OpV, textT (a ++ b) = textT a ++ textT b
  | [], _ => rfl
  | o :: r, b => by simp [textT, textT_append r b]
theorem parseLs_append {a b : List UInt8} {xs ys : List OpV} (ha : parseLs (splitP 10 a) = some xs) (hb : parseLs (splitP 10 b) = some ys) : parseLs (splitP 10 (a ++ b)) = some (xs ++ ys) := by
  obtain ⟨ea, ra⟩ := parseLs_back' ha
  obtain ⟨eb, rb⟩ := parseLs_back' hb
  have hr : ∀ o ∈ xs ++ ys, rightS o ∧ plainS o = o := by
    intro o ho
    rcases List.mem_append.1 ho with h | h
    · exact ra o h
    · exact rb o h
  rw [← ea, ← eb, ← textT_append, parseLs_text _ (fun o ho => (hr o ho).1)]
  congr 1
  conv => rhs; rw [← List.map_id (xs ++ ys)]
  exact List.map_congr_left fun o ho => (hr o ho).2
/-- Lengths. -/
theorem textT_len : ∀ os : List OpV, (textT os).length = (os.map fun o => (lineT o).length + 1).sum
  | [] => rfl
  | o :: r => by simp [textT, textT_len r]; omega
end Go.Proofs.YtonkdcbmmdhjgaaGreatDoor
