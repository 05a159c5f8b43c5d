/-
  PoolSome, walked.
-/
import Derived.Test.YtnhjokcjdjfijaaDoorPlOnce
import Derived.Stop.RegionWithIn
namespace Go.Proofs.YtnhjokcjdjfijaaDoor
open Go.RowKit Go.Shelf

attribute [local go_sem] Oper.semAt_some

/-- Cells of the law's own that stay. -/
def SomeC (w : World) (pc p : Nat) (x : Int) (W : World) : Prop :=
  Blk W w.heap.size 3 #[.int .i64 x] ∧ Blk W (w.heap.size + 1) 4 #[.bool false] ∧ Blk W pc 24 #[.pointer (some ⟨p, 0, none⟩)]
theorem SomeC.kept {w W W' : World} {pc p : Nat} {x : Int} {F : Nat → Prop} (h : SomeC w pc p x W) (hk : Kept F W W') (hF : ∀ k, F k → w.heap.size + 2 ≤ k ∧ k ≠ pc) : SomeC w pc p x W' :=
  ⟨h.1.kept hk (fun h => by have := hF _ h; omega), h.2.1.kept hk (fun h => by have := hF _ h; omega), h.2.2.kept hk (fun h => (hF _ h).2 rfl)⟩

theorem load_bool {w : World} {p : Addr} {b : Bool} (h : w.cell? p = some (.bool b)) : (loadVar 4 p).run Tryd.prog w = .ok (.bool b) w := by
  go_simp
/-- A pool among a law's own cells: none of S is one of these. -/
def SomeP (w : World) (pc p : Nat) (S : Nat → Prop) (L : List (List UInt8)) (W : World) : Prop :=
  PoolIs W S p L ∧ (∀ k, S k → w.heap.size + 2 ≤ k ∧ k ≠ pc ∧ k < W.heap.size) ∧ Fine L

section
variable {P : Program} {ops : Array Oper} {Q : Exit → Act → World → Prop} {md : Region.Mode}
theorem wpOpIn_of_wpOp_wide (n : Nat) (hops : ∀ o ∈ ops, ∀ c, o.op ≠ .defer c) (hQ : ¬ LetsOut Q) {i : Nat} {K : Act → World → Prop} {a : Act} {w : World} (h : wpOp P ops Q i K a w) : wpOpIn Fence.wide n P ops Q i K a w := by
  unfold wpOp at h
  unfold wpOpIn
  cases ho : ops[i]? with
  | none => simpa [ho] using h
  | some o =>
    simp only [ho] at h ⊢
    split
    · rename_i hw
      rw [if_pos hw] at h
      rcases h with h | ⟨_, h⟩
      · unfold Oper.wp at h
        unfold Oper.wpIn
        refine ⟨fun _ _ => trivial, ?_⟩
        rw [Oper.semAt_plain _ _ o (hops o (Array.mem_of_getElem? ho))]
        generalize (execOp a.eval o).run P w = r at *
        cases r with
        | ok x w' =>
          cases x <;> simp only [Oper.upon, Oper.uponIn] at h ⊢ <;> first
            | exact h
            | exact ⟨fun hd => (by cases hd), callsIn_wide.2 h⟩
            | exact ⟨fun hd => (by cases hd), fun c cs _ => by
                obtain ⟨v, w2, h1, h2⟩ := h c cs
                exact ⟨v, w2, h1, stepsIn_wide.2 h2⟩⟩
        | halt x w' => cases x <;> simp only [Oper.upon, Oper.uponIn] at h ⊢ <;> exact h
      · exact absurd h hQ
    · rename_i hw
      rw [if_neg hw] at h
      exact ⟨fun _ _ => trivial, h⟩
theorem wpAnyIn_of_wpAny_wide (n : Nat) (hops : ∀ o ∈ ops, ∀ c, o.op ≠ .defer c) (hQ : ¬ LetsOut Q) : ∀ (fuel : Nat) (listed : Array Bool) (a : Act) (w : World), wpAny P md ops Q fuel listed a w → wpAnyIn Fence.wide n P md ops Q fuel listed a w
  | 0, _, _, _, h => h
  | fuel + 1, _, _, _, h => ⟨h.1, fun i hi => wpOpIn_of_wpOp_wide n hops hQ (wpOp_mono (fun a w => wpAnyIn_of_wpAny_wide n hops hQ fuel _ a w) (h.2 i hi))⟩
theorem wpIn_region_held_wide {n id : Nat} {a : Act} {w : World} (S : World → Prop) (hm : P.follows .mixedOrders = true) (hops : (ops.all fun o => match o.op with | .defer _ => false | _ => true) = true) (hQ : ¬ LetsOut Q) (hS : S w.drew)
    (h : S w.drew → wpAnyH P .any ops Q S ops.size (Array.replicate ops.size false) a w.drew) : (Code.region id ops true).wpIn Fence.wide n P Q a w :=
  wpIn_region_any hm (wpAnyIn_of_wpAny_wide n (fun o ho c e => by
    have := (Array.all_eq_true_iff_forall_mem.1 hops) o ho
    rw [e] at this
    cases this) hQ _ _ _ _ (wpAny_of_held _ _ _ _ (h hS)))
end
theorem RowS.same {W W' : World} {S : Nat → Prop} {D : Option Addr} {n c : Nat} {zs : List (Value × List UInt8)} (h : RowS W S D n c zs) (hz : W.heap.size ≤ W'.heap.size) (same : ∀ (b : Nat) (o : Obj), W.heap[b]? = some o → o.isCells = true → W'.heap[b]? = some o) : RowS W' S D n c zs :=
  ((h.mono (T := fun b => S b ∧ b < W.heap.size) (fun k hk h => ⟨h, hk⟩)).still (lo := 0) (hi := W.heap.size) (fun k hk => ⟨Nat.zero_le _, hk.2⟩) ⟨hz, fun b o _ _ h1 h2 => same b o h1 h2⟩).mono (fun _ _ h => h.1)
theorem PoolIs.same {W W' : World} {S : Nat → Prop} {p : Nat} {L : List (List UInt8)} (h : PoolIs W S p L) (hz : W.heap.size ≤ W'.heap.size) (same : ∀ (b : Nat) (o : Obj), W.heap[b]? = some o → o.isCells = true → W'.heap[b]? = some o) : PoolIs W' S p L := by
  obtain ⟨h1, A, n, c, zs, h2, h3, h4⟩ := h
  exact ⟨h1, A, n, c, zs, same _ _ h2 rfl, h3.same hz same, h4⟩
/-- What the last region leaves. -/
def SomeOut (w : World) (b Dd : Nat) (e : Exit) (a' : Act) (w' : World) : Prop :=
  e = .normal ∧ a'.tmps.getD 4 undef = .pointer (some ⟨b, 0, none⟩) ∧ a'.defers = [{ target := .collected Dd, args := #[] }] ∧ w'.cell? ⟨b, 0, none⟩ = some (.bool true) ∧ w'.heap[Dd]? = some (.deferred (some [])) ∧ b ≠ Dd ∧ w.heap.size ≤ Dd ∧ w.grownBy w' none
/-- What holds between two transactions that are looked at. -/
def SomeI (a p b5 : Nat) (q1 : Int) (Au : Option Addr) (m cu : Nat) (zu : List (Value × List UInt8)) (lo5 : Nat) (S : Nat → Prop) (L : List (List UInt8)) (W0 : World) (k : Nat) (W : World) : Prop :=
  Blk W a 3 #[.int .i64 q1] ∧ Blk W (a + 1) 4 #[.bool false] ∧ Blk W (p + 1) 24 #[.pointer (some ⟨p, 0, none⟩)] ∧ Blk W b5 31 #[.slice Au m cu] ∧ Blk W (b5 + 1) 3 #[.int .i64 (k : Int)] ∧
    PoolIs W S p (L.drop k) ∧ RowS W (fun b => lo5 ≤ b ∧ b < b5) Au m cu zu ∧ Kept (fun j => S j ∨ j = b5 + 1 ∨ W0.heap.size ≤ j) W0 W ∧ (k : Int) ≤ q1
theorem someI_same {a p b5 : Nat} {q1 : Int} {Au : Option Addr} {m cu : Nat} {zu : List (Value × List UInt8)} {lo5 : Nat} {S : Nat → Prop} {L : List (List UInt8)} {W0 : World} {k : Nat} {W W' : World} {row : Option Nat} {B : Nat} (h : SomeI a p b5 q1 Au m cu zu lo5 S L W0 k W) (hB : W0.heap.size ≤ B) (hg : W.grownBy W' row) (hr : ∀ r, row = some r → B ≤ r ∧ ∃ o : Obj, W.heap[r]? = some o ∧ o.isCells = false) : SomeI a p b5 q1 Au m cu zu lo5 S L W0 k W' := by
  obtain ⟨h1, h2, h3, h4, h5, h6, h7, h8, h9⟩ := h
  have same := cells_same hg (fun r e => (hr r e).2)
  exact ⟨same _ _ h1 rfl, same _ _ h2 rfl, same _ _ h3 rfl, same _ _ h4 rfl, same _ _ h5 rfl, h6.same hg.size same, h7.same hg.size same, h8.next (Kept.of_grown (F := fun k => W0.heap.size ≤ k) hg (fun r e => by have := (hr r e).1; omega)) (fun _ _ h => .inr (.inr h)), h9⟩

set_option maxRecDepth 100000 in
set_option maxHeartbeats 4000000 in
theorem some_any (w : World) (E : Nat → Addr) (he : ErrVars [3, 7, 16] w w.heap.size E) (A : Option Addr) (n c : Nat) (ps : List (List UInt8)) (hn : ps.length = n) (hp : LsAt w A ps) (x : Int) : Calls Tryd.prog 7 #[.slice A n c, .int .i64 x] w fun e w' => e = .returned (.bool true) ∧ w.grownBy w' none := by
  obtain ⟨u1, q1, a1, a2, a3, a4, a5, a6, a7, a8, a9⟩ := u64_mod x 20 (by omega)
  obtain ⟨i0, hi0, hz0, hz1, hz2⟩ := info_parts lst_info
  have HI := Lib.hid (And.intro hi0 (And.intro hz0 (And.intro hz1 hz2)))
  have HE := Lib.hid he
  have HY := Lib.hid (And.intro hn hp.lsIn)
  clear he hn hp hi0 hz0 hz1 hz2
  refine (callsIn_wide (n := 6)).1 ?_
  refine callsIn_of_wp_marks Tryd.func7 rfl trivial ?_ rfl
  simp only [Tryd.ntmps7, List.size_toArray, List.length_cons, List.length_nil, Nat.reduceAdd, Nat.reduceSub, Array.replicate_succ, Array.replicate_zero, List.push_toArray, List.append_toArray, List.nil_append, List.cons_append]
  have g0 : w.grownBy ((w.alloc (.cells #[.int .i64 x] 3)).alloc (.cells #[.bool false] 4)) none := grown_trans (World.grownBy_alloc _ _ none) (World.grownBy_alloc _ _ none)
  have b0 : Blk ((w.alloc (.cells #[.int .i64 x] 3)).alloc (.cells #[.bool false] 4)) w.heap.size 3 #[.int .i64 x] := (Blk.new _ _ _).alloc _
  have b1 : Blk ((w.alloc (.cells #[.int .i64 x] 3)).alloc (.cells #[.bool false] 4)) (w.heap.size + 1) 4 #[.bool false] := by
    have h := Blk.new (w.alloc (.cells #[.int .i64 x] 3)) 4 #[.bool false]
    rw [World.size_alloc] at h
    exact h
  have z0 : ((w.alloc (.cells #[.int .i64 x] 3)).alloc (.cells #[.bool false] 4)).heap.size = w.heap.size + 2 := by simp
  gi_wp2
  generalize (w.alloc (.cells #[.int .i64 x] 3)).alloc (.cells #[.bool false] 4) = w0 at *
  have H0 := Lib.hid (And.intro g0 (And.intro b0 (And.intro b1 z0)))
  have HA := Lib.hid (alive_any w0 w.heap.size E (HE.out.grown g0 (fun _ e => by cases e)) (by omega))
  clear g0 b0 b1 z0
  refine ⟨trivial, ?_⟩
  refine (callsIn_wide.2 HA.out).mono ?_
  rintro e w1 ⟨rfl, k1⟩
  have hb0 := H0.out.2.1.grown k1 (by simp)
  have hb1 := H0.out.2.2.1.grown k1 (by simp)
  have c0 := hb0.cell 0
  have c1 := hb1.cell 0
  have f1 := hb1.frozen 0
  simp only [List.getElem?_toArray, List.getElem?_cons_zero] at c0 c1
  have H1 := Lib.hid (And.intro hb0 (And.intro hb1 (grown_trans H0.out.1 k1)))
  have z1 : w.heap.size + 2 ≤ w1.heap.size := by have := k1.size; have := H0.out.2.2.2; omega
  have Z1 := Lib.hid z1
  clear k1 hb0 hb1 z1
  by_cases h30 : 30 < n
  · have d1 : decide ((30 : Int) < (n : Int)) = true := by simp; omega
    gi_wp2
    refine ⟨_, results_cell rfl _ _ _ ⟨w.heap.size + 1, 0, none⟩ (.bool true) rfl (load_bool ((H1.out.2.1.set 0 (.bool true)).cell 0)), rfl, grown_far H1.out.2.2 (.inl (by simp)) _⟩
  have d0 : decide ((30 : Int) < (n : Int)) = false := by simp; omega
  have hn30 : n ≤ 30 := by omega
  clear h30
  gi_wp2
  refine ⟨trivial, ?_⟩
  refine (callsIn_wide.2 (pool_new _)).mono ?_
  rintro e w2 ⟨rfl, rfl⟩
  obtain ⟨p, hp⟩ : ∃ p, w1.heap.size = p := ⟨_, rfl⟩
  obtain ⟨w2, hw2⟩ : ∃ w2, (w1.alloc (.cells #[.slice none 0 0] 58)).alloc (.cells #[.pointer (some ⟨p, 0, none⟩)] 24) = w2 := ⟨_, rfl⟩
  have hg2 : w1.grownBy w2 none := by rw [← hw2]; exact grown_trans (World.grownBy_alloc _ _ none) (World.grownBy_alloc _ _ none)
  have hz2 : w2.heap.size = p + 2 := by rw [← hw2, ← hp]; simp
  have H2 : Hid (SomeP w (p + 1) p (fun k => k = p) [] w2 ∧ SomeC w (p + 1) p x w2 ∧ w.grownBy w2 none) := Lib.hid (by
    refine ⟨⟨?_, fun k hk => by have := Z1.out; subst hk; omega, Fine.nil⟩, ⟨H1.out.1.grown hg2 (by simp), H1.out.2.1.grown hg2 (by simp), ?_⟩, grown_trans H1.out.2.2 hg2⟩
    · rw [← hw2, ← hp]
      exact (PoolIs.new w1 (S := fun k => k = w1.heap.size) rfl).kept (Kept.of_grown (F := fun _ => False) (World.grownBy_alloc _ _ none) fun _ e => by cases e) (fun _ h => h.elim)
    · have h := Blk.new (w1.alloc (.cells #[.slice none 0 0] 58)) 24 #[.pointer (some ⟨p, 0, none⟩)]
      rw [World.size_alloc, hp, hw2] at h
      exact h)
  rw [hp]
  clear hg2 c0 c1 f1
  gi_wp2
  clear hw2
  gi_loopw [19] (fun i wr => ∃ (k : Nat) (S : Nat → Prop) (L : List (List UInt8)), k ≤ n ∧ i = .int .i64 (k : Int) ∧ SomeP w (p + 1) p S L wr ∧ SomeC w (p + 1) p x wr ∧ w.grownBy wr none) (fun i _ => n - (intOf i).toNat)
  case atStart => exact ⟨0, _, [], by omega, rfl, H2.out⟩
  case round =>
    obtain ⟨k, S, L, hk, hi, hP, hC, hG⟩ := hrel
    obtain ⟨I, hI⟩ : ∃ I : Int, I = (k : Int) := ⟨_, rfl⟩
    rw [← hI] at hi
    subst hi
    have c0 := hC.1.cell 0
    have c1 := hC.2.1.cell 0
    have f1 := hC.2.1.frozen 0
    have c2 := hC.2.2.cell 0
    simp only [List.getElem?_toArray, List.getElem?_cons_zero] at c0 c1 c2
    by_cases hlt : k < n
    · have d1 : decide (I < (n : Int)) = true := by simp; omega
      have hkx : k < ps.length := by have := HY.out.1; omega
      have hlsK : LsIn wr (fun b => b < w.heap.size) A ps := HY.out.2.kept (Kept.of_grown (F := fun _ => False) hG fun _ e => by cases e) (fun _ h => h.elim)
      obtain ⟨b, off, rfl, _, hc⟩ := hlsK (by rintro rfl; simp at hkx)
      obtain ⟨B, d, hcell, hB, _⟩ := hc k hkx
      have hkI : I.toNat = k := by omega
      generalize ps[k] = y at *
      rw [← hkI] at hcell
      have hI2 : 0 ≤ I ∧ I < (n : Int) := by omega
      have HN := Lib.hid (And.intro hI (And.intro hlt (And.intro hP (And.intro hC hG))))
      by_cases h100 : 100 < y.length
      · have d2 : decide ((100 : Int) < (y.length : Int)) = true := by simp; omega
        clear hc hI hlt hkI hkx hP hC hG hk h100 hB hlsK
        gi_wp2
        refine ⟨_, results_cell rfl _ _ _ ⟨w.heap.size + 1, 0, none⟩ (.bool true) rfl (load_bool ((HN.out.2.2.2.1.2.1.set 0 (.bool true)).cell 0)), rfl, grown_far HN.out.2.2.2.2 (.inl (by simp)) _⟩
      · have d2 : decide ((100 : Int) < (y.length : Int)) = false := by simp; omega
        have HC := Lib.hid (pool_add wr S p L w.heap.size E hP.1 (by have := hP.2.2.1; omega) B d y hB (HE.out.grown hG (fun _ e => by cases e)) (fun k h => by have := hP.2.1 k h; omega))
        clear hc hI hlt hkI hkx hP hC hG hk h100 hB hlsK
        gi_wp2
        refine ⟨trivial, ?_⟩
        refine (callsIn_wide.2 HC.out).mono ?_
        rintro e w3 ⟨rfl, h3, k3⟩
        have H3 := Lib.hid (And.intro h3 k3)
        clear h3 k3 c0 c1 c2 f1
        gi_wp2
        go_roundw
        case rel =>
          obtain ⟨hI, hlt, hP, hC, hG⟩ := HN.out
          have hs := H3.out.2.size
          have hpc := hC.2.2.lt
          refine ⟨k + 1, _, addL L y, by omega, by rw [hI]; rfl, ⟨H3.out.1, fun k hk => ?_, hP.2.2.add y⟩, hC.kept H3.out.2 (fun k hk => by have := hP.2.1 k hk; omega), ?_⟩
          · have hGs := hG.size
            rcases hk with hk | hk
            · have := hP.2.1 k hk; omega
            · have h1 := hC.2.1.lt; omega
          · exact (((Kept.of_grown (F := fun _ => False) hG fun _ e => by cases e).mono (G := fun k => w.heap.size ≤ k) (fun _ _ h => h.elim)).next H3.out.2 (fun k _ h => by have := hP.2.1 k h; omega)).grownNone (fun k hk h => by omega)
        case measure => obtain ⟨hI, hlt, _⟩ := HN.out; simp [intOf]; omega
    · have d1 : decide (I < (n : Int)) = false := by simp; omega
      have HN := Lib.hid (And.intro hP (And.intro hC hG))
      have hsm : ∀ y ∈ L, y.length ≤ 100000 := fun y hy => by have := hP.2.2.2.1 y hy; omega
      have htl : takeL 100 [] L = L := by rw [takeL, dropL_none, List.take_of_length_le]; have := hP.2.2.1; show L.length ≤ 100; omega
      have HC := Lib.hid (And.intro (pool_take wr S (fun _ => False) p L hP.1 (by have := hP.2.2.1; omega) hsm 100 none 0 0 [] rfl (by omega) (fun h => absurd rfl h) (fun _ h => h.elim)) (And.intro htl hsm))
      clear hI hlt hk hP hC hG hsm htl
      gi_wp2
      refine ⟨trivial, ?_⟩
      refine (callsIn_wide.2 HC.out.1).mono ?_
      rintro e w5 ⟨Au, cu, zu, rfl, hru, hsu, k5⟩
      rw [HC.out.2.1] at hsu hru
      rw [HC.out.2.1]
      have hC5 := HN.out.2.1.kept (Kept.of_grown (F := fun _ => False) k5 fun _ e => by cases e) (fun _ h => h.elim)
      have H5 := Lib.hid (And.intro hru (And.intro hsu (And.intro k5 hC5)))
      obtain ⟨m, hm⟩ : ∃ m, L.length = m := ⟨_, rfl⟩
      rw [hm]
      have c0' := (hC5.1.alloc (.cells #[.slice Au m cu] 31)).cell 0
      have f0' := (hC5.1.alloc (.cells #[.slice Au m cu] 31)).frozen 0
      simp only [List.getElem?_toArray, List.getElem?_cons_zero] at c0'
      have hpc : p + 1 < w5.heap.size := hC5.2.2.lt
      have hwz : w.heap.size + 1 < w5.heap.size := hC5.2.1.lt
      obtain ⟨W5, hW5⟩ : ∃ W5, W5 = w5.alloc (.cells #[.slice Au m cu] 31) := ⟨_, rfl⟩
      have z5 : W5.heap.size = w5.heap.size + 1 := by rw [hW5]; simp
      have hpne : p + 1 ≠ w.heap.size := by
        rintro e
        have h := hC5.1
        rw [← e] at h
        have := h.symm.trans hC5.2.2
        injection this with this
        injection this with h1 h2
        cases h1
      obtain ⟨W6, hW6⟩ : ∃ W6, W6 = (W5.setCell ⟨w.heap.size, 0, none⟩ (.int .i64 q1)).alloc (.cells #[.int .i64 0] 3) := ⟨_, rfl⟩
      have z6 : W6.heap.size = w5.heap.size + 2 := by rw [hW6, World.size_alloc]; show (W5.setCell _ _).heap.size + 1 = _; simp [World.setCell, z5]
      have KK5 : Kept (fun _ => False) w5 W5 := by rw [hW5]; exact (Kept.refl _ _).alloc _
      have KK6 : Kept (fun k => k = w.heap.size) W5 W6 := by rw [hW6]; exact ((Kept.refl (fun k => k = w.heap.size) W5).set (p := ⟨w.heap.size, 0, none⟩) (.inl rfl) _).alloc _
      have hC5' := hC5.kept KK5 (fun _ h => h.elim)
      have e1 : Blk W6 w.heap.size 3 #[.int .i64 q1] := by
        rw [hW6]
        have := (hC5'.1.set 0 (.int .i64 q1)).alloc (.cells #[.int .i64 0] 3)
        simpa using this
      have e2 : Blk W6 (w.heap.size + 1) 4 #[.bool false] := hC5'.2.1.kept KK6 (by omega)
      have e3 : Blk W6 (p + 1) 24 #[.pointer (some ⟨p, 0, none⟩)] := hC5'.2.2.kept KK6 hpne
      have e4 : Blk W6 w5.heap.size 31 #[.slice Au m cu] := by
        have : Blk W5 w5.heap.size 31 #[.slice Au m cu] := by rw [hW5]; exact Blk.new _ _ _
        exact this.kept KK6 (by omega)
      have e5 : Blk W6 (w5.heap.size + 1) 3 #[.int .i64 0] := by
        rw [hW6]
        have := Blk.new (W5.setCell ⟨w.heap.size, 0, none⟩ (.int .i64 q1)) 3 #[.int .i64 0]
        have hz : (W5.setCell ⟨w.heap.size, 0, none⟩ (.int .i64 q1)).heap.size = w5.heap.size + 1 := by simp [World.setCell, z5]
        rw [hz] at this
        exact this
      have KK : Kept (fun k => k = w.heap.size) w5 W6 := (KK5.mono (G := fun k => k = w.heap.size) (fun _ _ h => h.elim)).next KK6 (fun _ _ h => h)
      have c2' := e3.cell 0
      rw [hW6, hW5] at c2'
      simp only [List.getElem?_toArray, List.getElem?_cons_zero] at c2'
      have HM := Lib.hid (And.intro hm (And.intro hpc (And.intro hwz hpne)))
      have HW6 := Lib.hid (And.intro e1 (And.intro e2 (And.intro e3 (And.intro e4 (And.intro e5 (And.intro z6 KK))))))
      rw [hW5] at hW6
      clear hru hsu k5 hC5 hC5' c0 c1 c2 f1 hm hpc hwz z5 hpne hW5 z6 KK5 KK6 e1 e2 e3 e4 e5 KK
      have HW := Lib.hid hW6
      clear hW6
      gi_wp2
      rw [← HW.out]
      refine ⟨trivial, ?_⟩
      refine (all_in _ _ _ _ rfl).mono ?_
      rintro e w7 ⟨rfl, rfl⟩
      gi_wp2
      obtain ⟨W0, hW0⟩ : ∃ W0, W6.alloc (.cells #[.pointer (some ⟨p, 0, none⟩)] 24) = W0 := ⟨_, rfl⟩
      have g7 : W6.grownBy W0 none := by rw [← hW0]; exact World.grownBy_alloc _ _ none
      have z7 : W0.heap.size = w5.heap.size + 3 := by rw [← hW0, World.size_alloc, HW6.out.2.2.2.2.2.1]
      have b7 : Blk W0 W6.heap.size 24 #[.pointer (some ⟨p, 0, none⟩)] := by rw [← hW0]; exact Blk.new _ _ _
      rw [hW0]
      clear hW0
      have K7 := Kept.of_grown (F := fun _ => False) g7 fun _ e => by cases e
      have hSl : ∀ k, S k → w.heap.size + 2 ≤ k ∧ k ≠ p + 1 ∧ k < wr.heap.size := HN.out.1.2.1
      have hwr5 := H5.out.2.2.1.size
      have hwpc := HM.out.2.1
      have hPW0 : PoolIs W0 S p L := ((HN.out.1.1.kept (Kept.of_grown (F := fun _ => False) H5.out.2.2.1 fun _ e => by cases e) (fun _ h => h.elim)).kept HW6.out.2.2.2.2.2.2 (fun k h1 h2 => by have := hSl k h2; omega)).kept K7 (fun _ h => h.elim)
      have hRW0 : RowS W0 (fun b => wr.heap.size ≤ b ∧ b < w5.heap.size) Au m cu zu := by
        have h0 := H5.out.1
        rw [HM.out.1] at h0
        have hwrw := HN.out.2.2.size
        exact ((h0.mono (T := fun b => wr.heap.size ≤ b ∧ b < w5.heap.size) (fun k h1 h2 => ⟨h2, h1⟩)).kept HW6.out.2.2.2.2.2.2 (fun k h1 h2 => by have := HN.out.2.1.1.lt; omega)).kept K7 (fun _ h => h.elim)
      have hI0 : SomeI w.heap.size p w5.heap.size q1 Au m cu zu wr.heap.size S L W0 0 W0 :=
        ⟨HW6.out.1.grown g7 (by simp), HW6.out.2.1.grown g7 (by simp), HW6.out.2.2.1.grown g7 (by simp), HW6.out.2.2.2.1.grown g7 (by simp), HW6.out.2.2.2.2.1.grown g7 (by simp), by rw [List.drop_zero]; exact hPW0, hRW0, Kept.refl _ _, by have := a8; omega⟩
      have H7 := Lib.hid (And.intro hSl (And.intro z7 (And.intro g7 hwr5)))
      have hsm := HC.out.2.2
      have hL16 : L.length ≤ 16 := HN.out.1.2.2.1
      refine wpIn_rangeFunc_told rfl (by omega) (gf := 30) (lb := #[.pointer (some ⟨W6.heap.size, 0, none⟩)]) rfl trivial (enters_of Tryd.func30 (by kernel_rfl) rfl)
        (all_seq 5 (by omega) W6.heap.size p S L (by omega) hsm W0 hPW0 b7) (fun h1 h2 => Still.trans h1 h2)
        (fun x W l o o' hl ho hc _ => Still.put ho hc) PhiT.mono (Below.refl _ _) (fun _ => rfl)
        (fun pre W => SomeI w.heap.size p w5.heap.size q1 Au m cu zu wr.heap.size S L W0 pre.length W)
        (fun c' pre W => c' = .exit 2 ∧ ∃ k, SomeI w.heap.size p w5.heap.size q1 Au m cu zu wr.heap.size S L W0 k W ∧ (k : Int) = q1 ∧ k < m)
        (fun pre W W' row hs hg hr => someI_same hs (Nat.le_refl _) hg hr)
        (fun c' pre W W' row hs hg hr => by obtain ⟨h1, k, h2, h3⟩ := hs; exact ⟨h1, k, someI_same h2 (Nat.le_refl _) hg hr, h3⟩)
        hI0
        (fun pre t a' W => a' = { tmps := #[.slice A n c, .int .i64 x, undef, .pointer (some ⟨w.heap.size, 0, none⟩), .pointer (some ⟨w.heap.size + 1, 0, none⟩), .pointer (some ⟨p + 1, 0, none⟩), undef, u7, .pointer (some ⟨w5.heap.size, 0, none⟩), .pointer (some ⟨w5.heap.size + 1, 0, none⟩), .slice t.B t.x.length t.d, .bool true, .bool false, .slice A n c, .int .i64 (n : Int), .bool false, .pointer (some ⟨p, 0, none⟩), .slice A n c, .int .i64 (n : Int), .int .i64 I, .bool false, u21, u22, u23, u24, u25, u26, u27, u28, u29, .pointer (some ⟨p, 0, none⟩), .slice Au m cu, .int .i64 x, .int .u64 u1, .int .u64 q1, .int .i64 q1, .pointer (some ⟨p, 0, none⟩), .func (.func 30) #[] #[.pointer (some ⟨W6.heap.size, 0, none⟩)], .slice t.B t.x.length t.d, undef, undef, undef, undef, undef, undef, undef, undef, undef, undef, undef, undef, undef, undef, undef, undef, undef, undef, undef, undef, undef, undef, undef, undef, undef, undef, undef, undef, undef, undef, undef, undef, undef, undef], defers := [] } ∧ TxAt W0.heap.size L pre t W)
        (fun pre x a' => OwnFrom.and (ownFrom_pure _) txAt_own) ?assign ?body ?done ?stop
      case assign =>
        rintro l pre t W K hI hphi hK
        have HK := Lib.hid (hK _ W ((keeps_grown (World.grownBy.refl W none)).from _) (Still.refl _ _ _) hI ⟨rfl, hphi⟩)
        clear hK hI hphi
        simp only [txE]
        gi_wp2
        exact HK.out
      case body =>
        rintro l pre t a' W hl0 hl1 hI ⟨rfl, hx⟩
        obtain ⟨h1, h2, h3, h4, h5, h6, h7, h8, h9⟩ := id hI
        have c1 := h1.cell 0
        have c3 := h3.cell 0
        have c4 := h4.cell 0
        have c5 := h5.cell 0
        have f5 := h5.frozen 0
        simp only [List.getElem?_toArray, List.getElem?_cons_zero] at c1 c3 c4 c5
        obtain ⟨k, hk⟩ : ∃ k, k = pre.length := ⟨_, rfl⟩
        obtain ⟨K, hKk⟩ : ∃ K : Int, K = (k : Int) := ⟨_, rfl⟩
        rw [← hk, ← hKk] at c5
        by_cases hq : K = q1
        · have dq : (K == q1) = true := by rw [hq]; simp
          have hkm : k < m := by
            have h0 := (List.getElem?_eq_some_iff.1 hx.1).1
            rw [← HM.out.1, hk]; exact h0
          have HIX := Lib.hid (show SomeI w.heap.size p w5.heap.size q1 Au m cu zu wr.heap.size S L W0 k W ∧ (k : Int) = q1 ∧ k < m from ⟨by rw [hk]; exact hI, by rw [← hKk]; exact hq, hkm⟩)
          clear hI h1 h2 h3 h4 h5 h6 h7 h8 h9 hx hq hkm hKk hk
          gi_wp2
          exact ⟨(keeps_grown (World.grownBy.refl W none)).from _, rfl, k, HIX.out⟩
        · have dq : (K == q1) = false := beq_eq_false_iff_ne.2 hq
          have hLk : L[k]? = some t.x := by rw [hk]; exact hx.1
          have hkL : k < L.length := (List.getElem?_eq_some_iff.1 hLk).1
          have hkm : k < m := by rw [← HM.out.1]; exact hkL
          obtain ⟨gu, hgu⟩ : ∃ gu, Au = some ⟨gu, 0, none⟩ := by
            obtain ⟨g, cap, hv⟩ := Joins.ownsRow_form h7.1 (by omega)
            injection hv with h1
            exact ⟨g, h1⟩
          subst hgu
          obtain ⟨B', d', y', hy', hcy, hby, hbyl⟩ := h7.at hkm
          rw [H5.out.2.1, hLk] at hy'
          injection hy' with hy'
          rw [← hy'] at hcy hby hbyl
          clear hy'
          obtain ⟨tB, td, y, hty⟩ : ∃ tB td y, t.B = tB ∧ t.d = td ∧ t.x = y := ⟨_, _, _, rfl, rfl, rfl⟩
          obtain ⟨e1, e2, e3⟩ := hty
          have hbx := hx.2.1
          have hbl := hx.2.2.1
          have hlo := hx.2.2.2.2.1
          have hhi := hx.2.2.2.1
          rw [e1, e2, e3]
          rw [e3] at hcy hby hLk hbyl
          rw [e1, e3] at hbx hbl
          have hkI : K.toNat = k := by omega
          rw [← hkI] at hcy
          have hb0 : 0 ≤ K ∧ K < (m : Int) := by omega
          have s1 : ∀ V : World, V = W.drew → Sem.run Tryd.prog (convert 30 9 (.slice tB y.length td)) V = .ok (.string ⟨y.toArray⟩) V := fun V hV => by subst hV; exact str_any (w := W.drew) hbx rfl
          have s2 : ∀ V : World, V = W.drew → Sem.run Tryd.prog (convert 30 9 (.slice B' y.length d')) V = .ok (.string ⟨y.toArray⟩) V := fun V hV => by subst hV; exact str_any (w := W.drew) hby rfl
          have s1' := s1 W.drew rfl
          have s2' := s2 W.drew rfl
          have hdl : dropL (L.drop k) [y] = L.drop (k + 1) := by
            have h := dropL_one (L := L.drop k) (q := 0) (y := y) (HN.out.1.2.2.2.2.sublist (List.drop_sublist k L)) (by rw [List.getElem?_drop]; exact hLk)
            rw [h, List.take_zero, List.nil_append, List.drop_drop]
          have hone : ((L.drop k).length : Int) - ((dropL (L.drop k) [y]).length : Int) = 1 := by
            rw [hdl, List.length_drop, List.length_drop]; omega
          have gW1 : W.grownBy ((W.alloc (.cells #[.slice tB y.length td] 30)).drew) none := grown_drew (World.grownBy_alloc _ _ none)
          have KW1 := Kept.of_grown (F := fun _ => False) gW1 fun _ e => by cases e
          have hWz := h8.size
          have hD1 : LsIn ((W.alloc (.cells #[.slice tB y.length td] 30)).drew) (fun j => W0.heap.size ≤ j) (some ⟨W.heap.size, 0, none⟩) [y] := lsIn_one (w := W) hbx _ (fun ad e hne => by have := hbl ad e hne; show W0.heap.size ≤ ad.block; omega) (by show W0.heap.size ≤ W.heap.size; exact hWz)
          have hz7 := H7.out.2.1
          have hC := pool_drop ((W.alloc (.cells #[.slice tB y.length td] 30)).drew) S (fun j => W0.heap.size ≤ j) p (L.drop k) ((show PoolIs W S p (L.drop k) by rw [hk]; exact h6).kept KW1 (fun _ h => h.elim)) (by rw [List.length_drop]; omega) (fun j hj => by have := H7.out.1 j hj; have := H7.out.2.2.2; have hz : ((W.alloc (.cells #[.slice tB y.length td] 30)).drew).heap.size = W.heap.size + 1 := World.size_alloc _ _; rw [hz]; omega) (some ⟨W.heap.size, 0, none⟩) 1 1 [y] rfl (by omega) hD1 (fun j h1 h2 => by have := H7.out.1 j h2; have := H7.out.2.2.2; have h1 : W0.heap.size ≤ j := h1; omega)
          have hC' : Calls Tryd.prog 18 #[.pointer (some ⟨p, 0, none⟩), .slice (some ⟨W.heap.size, 0, none⟩) 1 1] ((W.alloc (.cells #[.slice tB y.length td] 30)).drew) (fun e w' => e = .returned (.int .i64 1) ∧ PoolIs w' S p (L.drop (k + 1)) ∧ Kept S ((W.alloc (.cells #[.slice tB y.length td] 30)).drew) w') := hC.mono fun e w' ⟨h1, h2, h3⟩ => ⟨by rw [← hone]; exact h1, by rw [← hdl]; exact h2, h3⟩
          have c3b := (h3.alloc (.cells #[.slice tB y.length td] 30)).cell 0
          simp only [List.getElem?_toArray, List.getElem?_cons_zero] at c3b
          have hsh : ∀ V, Kept S W V → V.cell? ⟨w5.heap.size, 0, none⟩ = some (.slice (some ⟨gu, 0, none⟩) m cu) ∧ V.cell? ⟨w5.heap.size + 1, 0, none⟩ = some (.int .i64 K) ∧ V.cell? ⟨gu, K.toNat, none⟩ = some (.slice B' y.length d') ∧ V.cell? ⟨p + 1, 0, none⟩ = some (.pointer (some ⟨p, 0, none⟩)) ∧ Sem.run Tryd.prog (convert 30 9 (.slice tB y.length td)) V = .ok (.string ⟨y.toArray⟩) V ∧ Sem.run Tryd.prog (convert 30 9 (.slice B' y.length d')) V = .ok (.string ⟨y.toArray⟩) V := fun V hV => by
            have hgu := h7.2.1 ⟨gu, 0, none⟩ rfl
            simp only at hgu
            have hwr := H7.out.2.2.2
            refine ⟨hV.cell c4 (fun h => by have := H7.out.1 _ h; simp only at this; omega), hV.cell c5 (fun h => by have := H7.out.1 _ h; simp only at this; omega), hV.cell hcy (fun h => by have := H7.out.1 _ h; simp only at this; omega), hV.cell c3 (fun h => by have := H7.out.1 _ h; simp only at this; omega), str_any (hbx.kept' hV (fun ad e hne h => by have := hbl ad e hne; have := H7.out.1 _ h; omega)) rfl, str_any (hby.kept' hV (fun ad e hne h => by have := (hbyl ad e hne).1; have := H7.out.1 _ h; omega)) rfl⟩
          have SH := Lib.hid hsh
          have HCC := Lib.hid hC'
          have HB := Lib.hid (And.intro hI (And.intro hk (And.intro hKk (And.intro hkm (And.intro hq (And.intro gW1 (And.intro KW1 (And.intro hWz (And.intro hlo hhi)))))))))
          clear hI h1 h2 h3 h4 h5 h6 h7 h8 h9 hx hq hk hKk hLk hkL hkm hbx hbl hlo hhi hkI s1 s2 hdl hone gW1 KW1 hWz hD1 hz7 hC hC' hby hbyl e1 e2 e3 hsh s1' s2'
          gi_wp2
          clear c1 c3 c3b c4 c5 hcy
          refine wpIn_region_held_round (S := fun V => V.cell? ⟨w5.heap.size, 0, none⟩ = some (.slice (some ⟨gu, 0, none⟩) m cu) ∧ V.cell? ⟨w5.heap.size + 1, 0, none⟩ = some (.int .i64 K) ∧ V.cell? ⟨gu, K.toNat, none⟩ = some (.slice B' y.length d') ∧ V.cell? ⟨p + 1, 0, none⟩ = some (.pointer (some ⟨p, 0, none⟩)) ∧ Sem.run Tryd.prog (convert 30 9 (.slice tB y.length td)) V = .ok (.string ⟨y.toArray⟩) V ∧ Sem.run Tryd.prog (convert 30 9 (.slice B' y.length d')) V = .ok (.string ⟨y.toArray⟩) V) (by kernel_rfl) (by kernel_rfl) ?hlo (SH.out W.drew (Kept.refl _ W).drew) (fun hHeld => ?_)
          case hlo => rintro ⟨_, _, h⟩; exact h
          refine wpAnyH_take (i := 0) (oi := _) (v := ?v0s) rfl (by kernel_rfl) (by kernel_rfl) (by kernel_rfl) (fun _ _ _ h => h) (Or.inl ⟨by rfl, ?hy0s⟩) (by assumption) ?rest0s
          case hy0s => (intro V hSw; (try dsimp only at hSw); go_simp) <;> with_reducible rfl
          simp only [Act.put, List.getElem_toArray, List.getElem_cons_zero, List.setIfInBounds_toArray, List.set_cons_zero, List.set_cons_succ]
          refine wpAnyH_take (i := 1) (oi := _) (v := ?v1s) rfl (by kernel_rfl) (by kernel_rfl) (by kernel_rfl) (fun _ _ _ h => h) (Or.inl ⟨by rfl, ?hy1s⟩) (by assumption) ?rest1s
          case hy1s => (intro V hSw; (try dsimp only at hSw); go_simp) <;> with_reducible rfl
          simp only [Act.put, List.getElem_toArray, List.getElem_cons_succ, List.getElem_cons_zero, List.setIfInBounds_toArray, List.set_cons_zero, List.set_cons_succ]
          refine wpAnyH_take (i := 2) (oi := _) (v := ?v2s) rfl (by kernel_rfl) (by kernel_rfl) (by kernel_rfl) (fun _ _ _ h => h) (Or.inl ⟨by rfl, ?hy2s⟩) (by assumption) ?rest2s
          case hy2s => (intro V hSw; (try dsimp only at hSw); go_simp) <;> with_reducible rfl
          simp only [Act.put, List.getElem_toArray, List.getElem_cons_succ, List.getElem_cons_zero, List.setIfInBounds_toArray, List.set_cons_zero, List.set_cons_succ]
          refine wpAnyH_take (i := 3) (oi := _) (v := ?v3s) rfl (by kernel_rfl) (by kernel_rfl) (by kernel_rfl) (fun _ _ _ h => h) (Or.inl ⟨by rfl, ?hy3s⟩) (by assumption) ?rest3s
          case hy3s => (intro V hSw; (try dsimp only at hSw); go_simp) <;> with_reducible rfl
          simp only [Act.put, List.getElem_toArray, List.getElem_cons_succ, List.getElem_cons_zero, List.setIfInBounds_toArray, List.set_cons_zero, List.set_cons_succ]
          refine wpAnyH_take (i := 4) (oi := _) (v := ?v4s) rfl (by kernel_rfl) (by kernel_rfl) (by kernel_rfl) (fun _ _ _ h => h) (Or.inl ⟨by rfl, ?hy4s⟩) (by assumption) ?rest4s
          case hy4s => (intro V hSw; (try dsimp only at hSw); go_simp) <;> with_reducible rfl
          simp only [Act.put, List.getElem_toArray, List.getElem_cons_succ, List.getElem_cons_zero, List.setIfInBounds_toArray, List.set_cons_zero, List.set_cons_succ]
          refine wpAnyH_take (i := 5) (oi := _) (v := ?v5s) rfl (by kernel_rfl) (by kernel_rfl) (by kernel_rfl) (fun _ _ _ h => h) (Or.inl ⟨by rfl, ?hy5s⟩) (by assumption) ?rest5s
          case hy5s => (intro V hSw; (try dsimp only at hSw); go_simp) <;> with_reducible rfl
          simp only [Act.put, List.getElem_toArray, List.getElem_cons_succ, List.getElem_cons_zero, List.setIfInBounds_toArray, List.set_cons_zero, List.set_cons_succ]
          refine wpAnyH_take (i := 6) (oi := _) (v := ?v6s) rfl (by kernel_rfl) (by kernel_rfl) (by kernel_rfl) (fun _ _ _ h => h) (Or.inl ⟨by rfl, ?hy6s⟩) (by assumption) ?rest6s
          case hy6s => (intro V hSw; (try dsimp only at hSw); go_simp) <;> with_reducible rfl
          simp only [Act.put, List.getElem_toArray, List.getElem_cons_succ, List.getElem_cons_zero, List.setIfInBounds_toArray, List.set_cons_zero, List.set_cons_succ]
          refine wpAnyH_take (i := 7) (oi := _) (v := ?v7s) rfl (by kernel_rfl) (by kernel_rfl) (by kernel_rfl) (fun _ _ _ h => h) (Or.inl ⟨by rfl, ?hy7s⟩) (by assumption) ?rest7s
          case hy7s => (intro V hSw; (try dsimp only at hSw); go_simp) <;> with_reducible rfl
          simp only [Act.put, List.getElem_toArray, List.getElem_cons_succ, List.getElem_cons_zero, List.setIfInBounds_toArray, List.set_cons_zero, List.set_cons_succ]
          refine wpAnyH_take (i := 8) (oi := _) (v := ?v8s) rfl (by kernel_rfl) (by kernel_rfl) (by kernel_rfl) (fun _ _ _ h => h) (Or.inl ⟨by rfl, ?hy8s⟩) (by assumption) ?rest8s
          case hy8s => (intro V hSw; (try dsimp only at hSw); go_simp) <;> with_reducible rfl
          simp only [Act.put, List.getElem_toArray, List.getElem_cons_succ, List.getElem_cons_zero, List.setIfInBounds_toArray, List.set_cons_zero, List.set_cons_succ]
          refine wpAnyH_take (i := 9) (oi := _) (v := ?v9s) rfl (by kernel_rfl) (by kernel_rfl) (by kernel_rfl) (fun _ _ _ h => h) (Or.inl ⟨by rfl, ?hy9s⟩) (by assumption) ?rest9s
          case hy9s => (intro V hSw; (try dsimp only at hSw); go_simp) <;> with_reducible rfl
          simp only [Act.put, List.getElem_toArray, List.getElem_cons_succ, List.getElem_cons_zero, List.setIfInBounds_toArray, List.set_cons_zero, List.set_cons_succ]
          refine wpAnyH_take (i := 10) (oi := _) (v := ?v10s) rfl (by kernel_rfl) (by kernel_rfl) (by kernel_rfl) (fun _ _ _ h => h) (Or.inl ⟨by rfl, ?hy10s⟩) (by assumption) ?rest10s
          case hy10s => (intro V hSw; (try dsimp only at hSw); go_simp) <;> with_reducible rfl
          simp only [Act.put, List.getElem_toArray, List.getElem_cons_succ, List.getElem_cons_zero, List.setIfInBounds_toArray, List.set_cons_zero, List.set_cons_succ]
          refine wpAnyH_ready (rs := [11]) (by kernel_rfl) (by simp) ?_
          refine AllReadyH.cons (o := _) rfl (fun K9 hK => ?_) AllReadyH.nil
          go_simp
          refine hK.out _ _ (SH.out _ ((Kept.refl _ W).alloc _).drew) (fun hHeld => ?_)
          clear hK K9
          try simp only [Act.put, List.setIfInBounds_toArray, List.set_cons_zero, List.set_cons_succ]
          refine wpAnyH_ready (rs := [12]) (by kernel_rfl) (by simp) ?_
          refine AllReadyH.cons (o := _) rfl (fun K9 hK => ?_) AllReadyH.nil
          go_simp
          refine HCC.out.mono ?_
          rintro e w8 ⟨rfl, h8, k8⟩
          have kk8 : Kept S W w8 := (((Kept.refl S W).alloc _).drew).next k8 (fun _ _ h => h)
          have H8 := Lib.hid (And.intro h8 kk8)
          clear h8 k8
          go_wp2_with fail
          refine hK.out _ _ (SH.out w8 kk8) (fun hHeld => ?_)
          clear hK K9
          try simp only [Act.put, List.setIfInBounds_toArray, List.set_cons_zero, List.set_cons_succ]
          refine wpAnyH_take (i := 13) (oi := _) (v := ?v13t) rfl (by kernel_rfl) (by kernel_rfl) (by kernel_rfl) (fun _ _ _ h => h) (Or.inl ⟨by rfl, ?hy13t⟩) (by assumption) ?rest13t
          case hy13t => (intro V hSw; (try dsimp only at hSw); go_simp) <;> with_reducible rfl
          simp only [Act.put, List.getElem_toArray, List.getElem_cons_succ, List.getElem_cons_zero, List.setIfInBounds_toArray, List.set_cons_zero, List.set_cons_succ]
          refine wpAnyH_take (i := 14) (oi := _) (v := ?v14t) rfl (by kernel_rfl) (by kernel_rfl) (by kernel_rfl) (fun _ _ _ h => h) (Or.inl ⟨by rfl, ?hy14t⟩) (by assumption) ?rest14t
          case hy14t => (intro V hSw; (try dsimp only at hSw); go_simp) <;> with_reducible rfl
          simp only [Act.put, List.getElem_toArray, List.getElem_cons_succ, List.getElem_cons_zero, List.setIfInBounds_toArray, List.set_cons_zero, List.set_cons_succ]
          refine wpAnyH_done (by kernel_rfl) ?_ _
          obtain ⟨hI, hk, hKk, hkm, hq, gW1, KW1, hWz, hlo, hhi⟩ := HB.out
          obtain ⟨h1, h2, h3, h4, h5, h6, h7, h8', h9⟩ := hI
          have hz7 := H7.out.2.1
          have h5w : Blk w8 (w5.heap.size + 1) 3 #[.int .i64 K] := by
            rw [hKk, hk]
            exact h5.kept H8.out.2 (fun h => by have := H7.out.1 _ h; have := H7.out.2.2.2; omega)
          have c5 := h5w.cell 0
          have f5 := h5w.frozen 0
          simp only [List.getElem?_toArray, List.getElem?_cons_zero] at c5
          have hK20 : K < 20 := by
            have := a9
            omega
          have H5w := Lib.hid h5w
          clear hk hKk hkm hq gW1 KW1 hWz hlo hhi h1 h2 h3 h4 h5 h6 h7 h8' h9 h5w hHeld
          gi_wp2
          obtain ⟨hI, hk, hKk, hkm, hq, gW1, KW1, hWz, hlo, hhi⟩ := HB.out
          obtain ⟨h1, h2, h3, h4, h5, h6, h7, h8', h9⟩ := hI
          have KS : Kept (fun j => j = w5.heap.size + 1) w8 (w8.setCell ⟨w5.heap.size + 1, 0, none⟩ (.int .i64 (K + 1))) := (Kept.refl (fun j => j = w5.heap.size + 1) w8).set (p := ⟨w5.heap.size + 1, 0, none⟩) (.inl rfl) _
          have KT : Kept (fun j => S j ∨ j = w5.heap.size + 1) W (w8.setCell ⟨w5.heap.size + 1, 0, none⟩ (.int .i64 (K + 1))) := (H8.out.2.mono (G := fun j => S j ∨ j = w5.heap.size + 1) (fun _ _ h => .inl h)).next KS (fun _ _ h => .inr h)
          have hSS := H7.out.1
          have hw5r := H7.out.2.2.2
          have hwz := HM.out.2.2.1
          have hpz := HM.out.2.1
          refine ⟨⟨KT.size, fun j o hj ho hc => (KT.block j (Array.getElem?_eq_some_iff.1 ho).1 (fun h => by rcases h with h | h; have := hSS j h; omega; omega)).trans ho⟩, Still.of_kept KT (fun j h h' => by rcases h with h | h; have := hSS j h; omega; omega), ?_⟩
          have hpl : (pre ++ [t]).length = k + 1 := by rw [List.length_append, List.length_singleton, hk]
          show SomeI w.heap.size p w5.heap.size q1 (some ⟨gu, 0, none⟩) m cu zu wr.heap.size S L W0 (pre ++ [t]).length _
          rw [hpl]
          refine ⟨h1.kept KT (fun h => by rcases h with h | h; have := hSS _ h; omega; omega), h2.kept KT (fun h => by rcases h with h | h; have := hSS _ h; omega; omega), h3.kept KT (fun h => by rcases h with h | h; exact (hSS _ h).2.1 rfl; omega), h4.kept KT (fun h => by rcases h with h | h; have := hSS _ h; omega; omega), ?_, H8.out.1.kept KS (fun j h h2 => by have := hSS j h2; omega), h7.kept KT (fun j h h2 => by rcases h with h | h; have := hSS j h; omega; omega), h8'.next KT (fun j _ h => by rcases h with h | h; exact .inl h; exact .inr (.inl h)), by omega⟩
          have := H5w.out.set 0 (.int .i64 (K + 1))
          have e : ((k + 1 : Nat) : Int) = K + 1 := by omega
          rw [e]
          simpa using this
      case done =>
        rintro Dd xs W hD hS hI hKd
        have hxm : xs.length = m := by rw [← HM.out.1, ← hS, List.length_map]

        obtain ⟨k, hIX, hkq, hkm⟩ : ∃ k, SomeI w.heap.size p w5.heap.size q1 Au m cu zu wr.heap.size S L W0 k W ∧ ((k : Int) = q1 ∨ (k = m ∧ (m : Int) ≤ q1)) ∧ k ≤ m := ⟨xs.length, hI, .inr ⟨hxm, by have := hI.2.2.2.2.2.2.2.2; omega⟩, by omega⟩
        obtain ⟨h1, h2, h3, h4, h5, h6, h7, h8, h9⟩ := hIX
        have c1 := h1.cell 0
        have c3 := h3.cell 0
        have c4 := h4.cell 0
        have c5 := h5.cell 0
        simp only [List.getElem?_toArray, List.getElem?_cons_zero] at c1 c3 c4 c5
        obtain ⟨K, hKk⟩ : ∃ K : Int, K = (k : Int) := ⟨_, rfl⟩
        rw [← hKk] at c5
        have hS0 : ∀ V, Kept (fun j => j = w.heap.size + 1) W V → V.cell? ⟨w5.heap.size + 1, 0, none⟩ = some (.int .i64 K) ∧ V.cell? ⟨w.heap.size, 0, none⟩ = some (.int .i64 q1) ∧ V.cell? ⟨w5.heap.size, 0, none⟩ = some (.slice Au m cu) ∧ V.cell? ⟨p + 1, 0, none⟩ = some (.pointer (some ⟨p, 0, none⟩)) := fun V hV => by
          have hwz := HM.out.2.2.1
          have hpz := HM.out.2.1
          have hp1 : p + 1 ≠ w.heap.size + 1 := fun e => by
            have h := h2
            rw [← e] at h
            have := h.symm.trans h3
            injection this with this
            injection this with q1 q2
            cases q1
          exact ⟨hV.cell c5 (by simp only; omega), hV.cell c1 (by simp), hV.cell c4 (by simp only; omega), hV.cell c3 hp1⟩
        have SH := Lib.hid hS0
        have hb1 : ∀ V, Kept (fun _ => False) W V → V.cell? ⟨w.heap.size + 1, 0, none⟩ = some (.bool false) ∧ V.frozen? ⟨w.heap.size + 1, 0, none⟩ = false := fun V hV => ⟨hV.cell (h2.cell 0) (fun h => h), (h2.kept hV (fun h => h)).frozen 0⟩
        have HB1 := Lib.hid hb1
        have hmin : (q1 ≤ (m : Int) ∧ (K == q1) = true) ∨ (¬ q1 ≤ (m : Int) ∧ (K == (m : Int)) = true) := by
          by_cases h : q1 ≤ (m : Int)
          · exact .inl ⟨h, by rw [beq_iff_eq]; omega⟩
          · exact .inr ⟨h, by rw [beq_iff_eq]; omega⟩
        have hLd : (L.drop k).length = m - K.toNat := by rw [List.length_drop, HM.out.1]; omega
        have htk : takeL 100 [] (L.drop k) = L.drop k := by rw [takeL, dropL_none, List.take_of_length_le]; rw [List.length_drop]; show L.length - k ≤ 100; omega
        have hsmd : ∀ y ∈ L.drop k, y.length ≤ 100000 := fun y hy => hsm y (List.mem_of_mem_drop hy)
        have hCT := pool_take W.drew S (fun _ => False) p (L.drop k) (h6.kept (Kept.refl (fun _ => False) W).drew (fun _ h => h.elim)) (by rw [List.length_drop]; omega) hsmd 100 none 0 0 [] rfl (by omega) (fun h => absurd rfl h) (fun _ h => h.elim)
        have hbnd : 0 ≤ K ∧ K ≤ (m : Int) ∧ K < 20 := by omega
        have hq20 : 0 ≤ q1 ∧ q1 < 20 := by omega
        have hm16 : m ≤ 16 := by have := HM.out.1; omega
        have HT := Lib.hid (And.intro hCT (And.intro htk (And.intro hLd h8)))
        have hAx : ∃ AX : Option Addr, (∀ V, Kept (fun _ => False) W V → LsAt V AX (L.drop k)) ∧ ((Au = none ∧ AX = none ∧ m = 0 ∧ cu = 0) ∨ (∃ gu, Au = some ⟨gu, 0, none⟩ ∧ m ≤ cu ∧ ((cu = K.toNat ∧ AX = some ⟨gu, 0, none⟩) ∨ (¬ cu = K.toNat ∧ AX = some ⟨gu, K.toNat, none⟩)))) := by
          rcases h7.1.2 with ⟨hv, h0⟩ | ⟨g, cap, cur, hv, _, _, hmc, _⟩
          · injection hv with e1 e2 e3
            refine ⟨none, fun V hV hne => absurd ?_ hne, .inl ⟨e1, rfl, h0, e3⟩⟩
            exact List.drop_eq_nil_of_le (by have := HM.out.1; omega)
          · injection hv with e1 e2 e3
            have hls : ∀ V, Kept (fun _ => False) W V → L.drop k ≠ [] → ∀ j (_ : j < (L.drop k).length), ∃ B c, V.cell? ⟨g, k + j, none⟩ = some (.slice B ((L.drop k)[j]).length c) ∧ BytesAt V B ((L.drop k)[j]) := fun V hV hne j hj => by
              have hr := h7.kept hV (fun _ h => h.elim)
              have hl := hr.ls
              rw [H5.out.2.1, e1] at hl
              obtain ⟨b, off, e, hc⟩ := hl (fun e => hne (by rw [e]; simp))
              injection e with e
              injection e with e4 e5
              subst e4
              have h0 : off = 0 := e5.symm
              subst h0
              obtain ⟨B, c, p1, p2⟩ := hc (k + j) (by rw [List.length_drop] at hj; omega)
              rw [Nat.zero_add] at p1
              rw [List.getElem_drop]
              exact ⟨B, c, p1, p2⟩
            by_cases hcu : cu = K.toNat
            · refine ⟨some ⟨g, 0, none⟩, fun V hV hne => absurd ?_ hne, .inr ⟨g, e1, by omega, .inl ⟨hcu, rfl⟩⟩⟩
              exact List.drop_eq_nil_of_le (by have := HM.out.1; omega)
            · refine ⟨some ⟨g, K.toNat, none⟩, fun V hV hne => ⟨g, K.toNat, rfl, fun j hj => ?_⟩, .inr ⟨g, e1, by omega, .inr ⟨hcu, rfl⟩⟩⟩
              rw [show K.toNat = k by omega]
              exact hls V hV hne j hj
        obtain ⟨AX, hax, hcase⟩ := hAx
        have HAX := Lib.hid hax
        have HKD := Lib.hid (And.intro hKd hD)
        have hK0 : 0 ≤ K := by omega
        clear h1 h2 h3 h4 h5 h6 h7 h8 h9 c1 c3 c4 c5 hS0 hb1 hLd htk hsmd hCT hax hKd hkq hkm hKk hS hxm
        have hfin : ∀ w9, Kept (fun _ => False) W w9 → ∀ a' : Act, a'.tmps.getD 4 undef = .pointer (some ⟨w.heap.size + 1, 0, none⟩) → a'.defers = [{ target := .collected Dd, args := #[] }] → SomeOut w (w.heap.size + 1) Dd .normal a' (w9.setCell ⟨w.heap.size + 1, 0, none⟩ (.bool true)) := fun w9 kk9 a' ha1 ha2 => by
          have h7 := H7.out.2.1
          have hwz := HM.out.2.2.1
          have hKz := HKD.out.2
          have kk10 : Kept (fun j => j = w.heap.size + 1) W (w9.setCell ⟨w.heap.size + 1, 0, none⟩ (.bool true)) := (kk9.mono (G := fun j => j = w.heap.size + 1) (fun _ _ h => h.elim)).set (p := ⟨w.heap.size + 1, 0, none⟩) (.inl rfl) _
          have kw5 : Kept (fun j => w.heap.size ≤ j) w w5 := (Kept.of_grown (F := fun j => w.heap.size ≤ j) HN.out.2.2 fun _ e => by cases e).next (Kept.of_grown (F := fun _ => False) H5.out.2.2.1 fun _ e => by cases e) (fun _ _ h => h.elim)
          have kw0 : Kept (fun j => w.heap.size ≤ j) w W0 := (kw5.next HW6.out.2.2.2.2.2.2 (fun j _ h => by have h : j = w.heap.size := h; omega)).next (Kept.of_grown (F := fun _ => False) H7.out.2.2.1 fun _ e => by cases e) (fun _ _ h => h.elim)
          have hws := kw5.size
          have kwW := kw0.next HT.out.2.2.2 (fun j _ h => by
            rcases h with h | h | h
            · have := H7.out.1 j h; omega
            · omega
            · omega)
          have hall := kwW.next kk10 (fun j _ h => by have h : j = w.heap.size + 1 := h; omega)
          refine ⟨rfl, ha1, ha2, ?_, (kk10.block Dd (Array.getElem?_eq_some_iff.1 HKD.out.1).1 (fun h => by omega)).trans HKD.out.1, by omega, by omega, hall.grownNone (fun j hj h => by omega)⟩
          exact World.cell?_setCell_same' _ _ _ (by rw [(HB1.out w9 kk9).1]; rfl)
        have FIN := Lib.hid hfin
        clear hfin
        gi_wp2
        refine wpIn_mono (Q := SomeOut w (w.heap.size + 1) Dd) ?reg ?out
        case out =>
          rintro e ⟨tmps, defers⟩ w' ⟨rfl, h4, h5, h6, h7, h8, h9, h10⟩
          simp only at h4 h5
          subst h5
          gi_wp2
          refine ⟨by simp, .inl ⟨_, _, rfl, run_takeDeferred h7, ?_⟩⟩
          have hp := grownBy_putObj' w' Dd (.deferred none)
          refine ⟨_, results_cell rfl _ _ _ ⟨w.heap.size + 1, 0, none⟩ (.bool true) h4 (load_bool (hp.cell h6 (fun e => h8 (Option.some.inj e)))), rfl, grown_fresh h10 hp h9⟩
        rcases hmin with ⟨dm, dk⟩ | ⟨dm, dk⟩
        · have dA : ((m : Int) < q1) = False := eq_false (by omega)
          have dB : (K = q1) = True := eq_true (eq_of_beq dk)
          have dC : m = 0 → ((0 : Int) < q1) = False := fun h => by rw [← dA, h]; rfl
          have dD : m = 0 → (K = q1) = True := fun _ => dB
          rcases hcase with ⟨rfl, rfl, hm0, hc0⟩ | ⟨gu, rfl, hmc, ⟨hcu, rfl⟩ | ⟨hcu, rfl⟩⟩
          · have hK00 : K = 0 := by have := eq_of_beq dk; omega
            subst hK00
            have hq00 : q1 = 0 := by have := eq_of_beq dk; omega
            subst hq00
            subst hm0
            subst hc0
            clear dA dB dC dD
            refine wpIn_region_held_wide (S := fun V => V.cell? ⟨w5.heap.size + 1, 0, none⟩ = some (.int .i64 0) ∧ V.cell? ⟨w.heap.size, 0, none⟩ = some (.int .i64 0) ∧ V.cell? ⟨w5.heap.size, 0, none⟩ = some (.slice none 0 0) ∧ V.cell? ⟨p + 1, 0, none⟩ = some (.pointer (some ⟨p, 0, none⟩))) (by kernel_rfl) (by kernel_rfl) (by rintro ⟨_, _, h, _⟩; cases h) (SH.out W.drew (Kept.refl _ W).drew) (fun hHeld => ?_)
            refine wpAnyH_take (i := 0) (oi := _) (v := ?vd10a) rfl (by kernel_rfl) (by kernel_rfl) (by kernel_rfl) (fun _ _ _ h => by cases h.1) (Or.inl ⟨by rfl, ?hyd10a⟩) (by assumption) ?restd10a
            case hyd10a => (intro V hSw; (try dsimp only at hSw); go_simp) <;> with_reducible rfl
            simp only [Act.put, List.getElem_toArray, List.getElem_cons_zero, List.setIfInBounds_toArray, List.set_cons_zero, List.set_cons_succ]
            refine wpAnyH_take (i := 1) (oi := _) (v := ?vd11a) rfl (by kernel_rfl) (by kernel_rfl) (by kernel_rfl) (fun _ _ _ h => by cases h.1) (Or.inl ⟨by rfl, ?hyd11a⟩) (by assumption) ?restd11a
            case hyd11a => (intro V hSw; (try dsimp only at hSw); go_simp) <;> with_reducible rfl
            simp only [Act.put, List.getElem_toArray, List.getElem_cons_succ, List.getElem_cons_zero, List.setIfInBounds_toArray, List.set_cons_zero, List.set_cons_succ]
            refine wpAnyH_take (i := 2) (oi := _) (v := ?vd12a) rfl (by kernel_rfl) (by kernel_rfl) (by kernel_rfl) (fun _ _ _ h => by cases h.1) (Or.inl ⟨by rfl, ?hyd12a⟩) (by assumption) ?restd12a
            case hyd12a => (intro V hSw; (try dsimp only at hSw); go_simp) <;> with_reducible rfl
            simp only [Act.put, List.getElem_toArray, List.getElem_cons_succ, List.getElem_cons_zero, List.setIfInBounds_toArray, List.set_cons_zero, List.set_cons_succ]
            refine wpAnyH_take (i := 3) (oi := _) (v := ?vd13a) rfl (by kernel_rfl) (by kernel_rfl) (by kernel_rfl) (fun _ _ _ h => by cases h.1) (Or.inl ⟨by rfl, ?hyd13a⟩) (by assumption) ?restd13a
            case hyd13a => (intro V hSw; (try dsimp only at hSw); go_simp) <;> with_reducible rfl
            simp only [Act.put, List.getElem_toArray, List.getElem_cons_succ, List.getElem_cons_zero, List.setIfInBounds_toArray, List.set_cons_zero, List.set_cons_succ]
            refine wpAnyH_take (i := 4) (oi := _) (v := ?vd14a) rfl (by kernel_rfl) (by kernel_rfl) (by kernel_rfl) (fun _ _ _ h => by cases h.1) (Or.inl ⟨by rfl, ?hyd14a⟩) (by assumption) ?restd14a
            case hyd14a => (intro V hSw; (try dsimp only at hSw); go_simp) <;> with_reducible rfl
            simp only [Act.put, List.getElem_toArray, List.getElem_cons_succ, List.getElem_cons_zero, List.setIfInBounds_toArray, List.set_cons_zero, List.set_cons_succ]
            refine wpAnyH_take (i := 5) (oi := _) (v := ?vd15a) rfl (by kernel_rfl) (by kernel_rfl) (by kernel_rfl) (fun _ _ _ h => by cases h.1) (Or.inl ⟨by rfl, ?hyd15a⟩) (by assumption) ?restd15a
            case hyd15a => (intro V hSw; (try dsimp only at hSw); go_simp) <;> with_reducible rfl
            simp only [Act.put, List.getElem_toArray, List.getElem_cons_succ, List.getElem_cons_zero, List.setIfInBounds_toArray, List.set_cons_zero, List.set_cons_succ]
            refine wpAnyH_take (i := 6) (oi := _) (v := ?vd16a) rfl (by kernel_rfl) (by kernel_rfl) (by kernel_rfl) (fun _ _ _ h => by cases h.1) (Or.inl ⟨by rfl, ?hyd16a⟩) (by assumption) ?restd16a
            case hyd16a => (intro V hSw; (try dsimp only at hSw); go_simp) <;> with_reducible rfl
            simp only [Act.put, List.getElem_toArray, List.getElem_cons_succ, List.getElem_cons_zero, List.setIfInBounds_toArray, List.set_cons_zero, List.set_cons_succ]
            refine wpAnyH_take (i := 7) (oi := _) (v := ?vd17a) rfl (by kernel_rfl) (by kernel_rfl) (by kernel_rfl) (fun _ _ _ h => by cases h.1) (Or.inl ⟨by rfl, ?hyd17a⟩) (by assumption) ?restd17a
            case hyd17a => (intro V hSw; (try dsimp only at hSw); go_simp) <;> with_reducible rfl
            simp only [Act.put, List.getElem_toArray, List.getElem_cons_succ, List.getElem_cons_zero, List.setIfInBounds_toArray, List.set_cons_zero, List.set_cons_succ]
            refine wpAnyH_take (i := 9) (oi := _) (v := ?vd19a) rfl (by kernel_rfl) (by kernel_rfl) (by kernel_rfl) (fun _ _ _ h => by cases h.1) (Or.inl ⟨by rfl, ?hyd19a⟩) (by assumption) ?restd19a
            case hyd19a => (intro V hSw; (try dsimp only at hSw); go_simp) <;> with_reducible rfl
            simp only [Act.put, List.getElem_toArray, List.getElem_cons_succ, List.getElem_cons_zero, List.setIfInBounds_toArray, List.set_cons_zero, List.set_cons_succ]
            refine wpAnyH_take (i := 10) (oi := _) (v := ?vd110a) rfl (by kernel_rfl) (by kernel_rfl) (by kernel_rfl) (fun _ _ _ h => by cases h.1) (Or.inl ⟨by rfl, ?hyd110a⟩) (by assumption) ?restd110a
            case hyd110a => (intro V hSw; (try dsimp only at hSw); go_simp) <;> with_reducible rfl
            simp only [Act.put, List.getElem_toArray, List.getElem_cons_succ, List.getElem_cons_zero, List.setIfInBounds_toArray, List.set_cons_zero, List.set_cons_succ]
            refine wpAnyH_take (i := 11) (oi := _) (v := ?vd111a) rfl (by kernel_rfl) (by kernel_rfl) (by kernel_rfl) (fun _ _ _ h => by cases h.1) (Or.inl ⟨by rfl, ?hyd111a⟩) (by assumption) ?restd111a
            case hyd111a => (intro V hSw; (try dsimp only at hSw); go_simp) <;> with_reducible rfl
            simp only [Act.put, List.getElem_toArray, List.getElem_cons_succ, List.getElem_cons_zero, List.setIfInBounds_toArray, List.set_cons_zero, List.set_cons_succ]
            refine wpAnyH_ready (rs := [8]) (by kernel_rfl) (by simp) ?_
            refine AllReadyH.cons (o := _) rfl (fun K9 hK => ?_) AllReadyH.nil
            go_simp
            refine HT.out.1.mono ?_
            rintro e w8 ⟨At, ct, zt, rfl, hrt, hst, k8⟩
            rw [HT.out.2.1] at hrt hst
            rw [HT.out.2.1, HT.out.2.2.1]
            have hlt := hrt.ls
            rw [hst] at hlt
            have kk8 : Kept (fun _ => False) W w8 := (Kept.refl (fun _ => False) W).drew.next (Kept.of_grown (F := fun _ => False) k8 fun _ e => by cases e) (fun _ _ h => h)
            have H8 := Lib.hid (And.intro hlt kk8)
            clear hrt hst hlt k8
            go_wp2_with fail
            refine hK.out _ _ (SH.out w8 (kk8.mono (fun _ _ h => h.elim))) (fun hHeld => ?_)
            clear hK K9
            try simp only [Act.put, List.setIfInBounds_toArray, List.set_cons_zero, List.set_cons_succ]
            refine wpAnyH_ready (rs := [12]) (by kernel_rfl) (by simp) ?_
            refine AllReadyH.cons (o := _) rfl (fun K9 hK => ?_) AllReadyH.nil
            go_simp
            refine (samelists_is w8 At none ct _ (0 - (0 : Int).toNat) (L.drop k) HT.out.2.2.1 (by omega) H8.out.1 (HAX.out w8 H8.out.2)).mono ?_
            rintro e w9 ⟨rfl, k9⟩
            have kk9 := H8.out.2.next (Kept.of_grown (F := fun _ => False) k9 fun _ e => by cases e) (fun _ _ h => h)
            have c9 := (HB1.out w9 kk9).1
            have f9 := (HB1.out w9 kk9).2
            have H9 := Lib.hid kk9
            clear k9
            go_wp2_with fail
            refine hK.out _ _ (SH.out w9 (kk9.mono (fun _ _ h => h.elim))) (fun hHeld => ?_)
            clear hK K9
            try simp only [Act.put, List.setIfInBounds_toArray, List.set_cons_zero, List.set_cons_succ]
            refine wpAnyH_take (i := 13) (oi := _) (v := ?vd113a) rfl (by kernel_rfl) (by kernel_rfl) (by kernel_rfl) (fun _ _ _ h => by cases h.1) (Or.inl ⟨by rfl, ?hyd113a⟩) (by assumption) ?restd113a
            case hyd113a => (intro V hSw; (try dsimp only at hSw); go_simp) <;> with_reducible rfl
            simp only [Act.put, List.getElem_toArray, List.getElem_cons_succ, List.getElem_cons_zero, List.setIfInBounds_toArray, List.set_cons_zero, List.set_cons_succ]
            refine wpAnyH_ready (rs := [14]) (by kernel_rfl) (by simp) ?_
            refine AllReadyH.cons (o := _) rfl (fun K9 hK => ?_) AllReadyH.nil
            go_simp
            have kk10 : Kept (fun j => j = w.heap.size + 1) W (w9.setCell ⟨w.heap.size + 1, 0, none⟩ (.bool true)) := (kk9.mono (G := fun j => j = w.heap.size + 1) (fun _ _ h => h.elim)).set (p := ⟨w.heap.size + 1, 0, none⟩) (.inl rfl) _
            refine hK.out _ _ (SH.out _ kk10) (fun hHeld => ?_)
            clear hK K9 hHeld
            refine wpAnyH_done (by kernel_rfl) ?_ _
            exact FIN.out w9 kk9 _ rfl rfl
          · refine wpIn_region_held_wide (S := fun V => V.cell? ⟨w5.heap.size + 1, 0, none⟩ = some (.int .i64 K) ∧ V.cell? ⟨w.heap.size, 0, none⟩ = some (.int .i64 q1) ∧ V.cell? ⟨w5.heap.size, 0, none⟩ = some (.slice (some ⟨gu, 0, none⟩) m cu) ∧ V.cell? ⟨p + 1, 0, none⟩ = some (.pointer (some ⟨p, 0, none⟩))) (by kernel_rfl) (by kernel_rfl) (by rintro ⟨_, _, h, _⟩; cases h) (SH.out W.drew (Kept.refl _ W).drew) (fun hHeld => ?_)
            refine wpAnyH_take (i := 0) (oi := _) (v := ?vd10b) rfl (by kernel_rfl) (by kernel_rfl) (by kernel_rfl) (fun _ _ _ h => by cases h.1) (Or.inl ⟨by rfl, ?hyd10b⟩) (by assumption) ?restd10b
            case hyd10b => (intro V hSw; (try dsimp only at hSw); go_simp) <;> with_reducible rfl
            simp only [Act.put, List.getElem_toArray, List.getElem_cons_zero, List.setIfInBounds_toArray, List.set_cons_zero, List.set_cons_succ]
            refine wpAnyH_take (i := 1) (oi := _) (v := ?vd11b) rfl (by kernel_rfl) (by kernel_rfl) (by kernel_rfl) (fun _ _ _ h => by cases h.1) (Or.inl ⟨by rfl, ?hyd11b⟩) (by assumption) ?restd11b
            case hyd11b => (intro V hSw; (try dsimp only at hSw); go_simp) <;> with_reducible rfl
            simp only [Act.put, List.getElem_toArray, List.getElem_cons_succ, List.getElem_cons_zero, List.setIfInBounds_toArray, List.set_cons_zero, List.set_cons_succ]
            refine wpAnyH_take (i := 2) (oi := _) (v := ?vd12b) rfl (by kernel_rfl) (by kernel_rfl) (by kernel_rfl) (fun _ _ _ h => by cases h.1) (Or.inl ⟨by rfl, ?hyd12b⟩) (by assumption) ?restd12b
            case hyd12b => (intro V hSw; (try dsimp only at hSw); go_simp) <;> with_reducible rfl
            simp only [Act.put, List.getElem_toArray, List.getElem_cons_succ, List.getElem_cons_zero, List.setIfInBounds_toArray, List.set_cons_zero, List.set_cons_succ]
            refine wpAnyH_take (i := 3) (oi := _) (v := ?vd13b) rfl (by kernel_rfl) (by kernel_rfl) (by kernel_rfl) (fun _ _ _ h => by cases h.1) (Or.inl ⟨by rfl, ?hyd13b⟩) (by assumption) ?restd13b
            case hyd13b => (intro V hSw; (try dsimp only at hSw); go_simp) <;> with_reducible rfl
            simp only [Act.put, List.getElem_toArray, List.getElem_cons_succ, List.getElem_cons_zero, List.setIfInBounds_toArray, List.set_cons_zero, List.set_cons_succ]
            refine wpAnyH_take (i := 4) (oi := _) (v := ?vd14b) rfl (by kernel_rfl) (by kernel_rfl) (by kernel_rfl) (fun _ _ _ h => by cases h.1) (Or.inl ⟨by rfl, ?hyd14b⟩) (by assumption) ?restd14b
            case hyd14b => (intro V hSw; (try dsimp only at hSw); go_simp) <;> with_reducible rfl
            simp only [Act.put, List.getElem_toArray, List.getElem_cons_succ, List.getElem_cons_zero, List.setIfInBounds_toArray, List.set_cons_zero, List.set_cons_succ]
            refine wpAnyH_take (i := 5) (oi := _) (v := ?vd15b) rfl (by kernel_rfl) (by kernel_rfl) (by kernel_rfl) (fun _ _ _ h => by cases h.1) (Or.inl ⟨by rfl, ?hyd15b⟩) (by assumption) ?restd15b
            case hyd15b => (intro V hSw; (try dsimp only at hSw); go_simp) <;> with_reducible rfl
            simp only [Act.put, List.getElem_toArray, List.getElem_cons_succ, List.getElem_cons_zero, List.setIfInBounds_toArray, List.set_cons_zero, List.set_cons_succ]
            refine wpAnyH_take (i := 6) (oi := _) (v := ?vd16b) rfl (by kernel_rfl) (by kernel_rfl) (by kernel_rfl) (fun _ _ _ h => by cases h.1) (Or.inl ⟨by rfl, ?hyd16b⟩) (by assumption) ?restd16b
            case hyd16b => (intro V hSw; (try dsimp only at hSw); go_simp) <;> with_reducible rfl
            simp only [Act.put, List.getElem_toArray, List.getElem_cons_succ, List.getElem_cons_zero, List.setIfInBounds_toArray, List.set_cons_zero, List.set_cons_succ]
            refine wpAnyH_take (i := 7) (oi := _) (v := ?vd17b) rfl (by kernel_rfl) (by kernel_rfl) (by kernel_rfl) (fun _ _ _ h => by cases h.1) (Or.inl ⟨by rfl, ?hyd17b⟩) (by assumption) ?restd17b
            case hyd17b => (intro V hSw; (try dsimp only at hSw); go_simp) <;> with_reducible rfl
            simp only [Act.put, List.getElem_toArray, List.getElem_cons_succ, List.getElem_cons_zero, List.setIfInBounds_toArray, List.set_cons_zero, List.set_cons_succ]
            refine wpAnyH_take (i := 9) (oi := _) (v := ?vd19b) rfl (by kernel_rfl) (by kernel_rfl) (by kernel_rfl) (fun _ _ _ h => by cases h.1) (Or.inl ⟨by rfl, ?hyd19b⟩) (by assumption) ?restd19b
            case hyd19b => (intro V hSw; (try dsimp only at hSw); go_simp) <;> with_reducible rfl
            simp only [Act.put, List.getElem_toArray, List.getElem_cons_succ, List.getElem_cons_zero, List.setIfInBounds_toArray, List.set_cons_zero, List.set_cons_succ]
            refine wpAnyH_take (i := 10) (oi := _) (v := ?vd110b) rfl (by kernel_rfl) (by kernel_rfl) (by kernel_rfl) (fun _ _ _ h => by cases h.1) (Or.inl ⟨by rfl, ?hyd110b⟩) (by assumption) ?restd110b
            case hyd110b => (intro V hSw; (try dsimp only at hSw); go_simp) <;> with_reducible rfl
            simp only [Act.put, List.getElem_toArray, List.getElem_cons_succ, List.getElem_cons_zero, List.setIfInBounds_toArray, List.set_cons_zero, List.set_cons_succ]
            refine wpAnyH_take (i := 11) (oi := _) (v := ?vd111b) rfl (by kernel_rfl) (by kernel_rfl) (by kernel_rfl) (fun _ _ _ h => by cases h.1) (Or.inl ⟨by rfl, ?hyd111b⟩) (by assumption) ?restd111b
            case hyd111b => (intro V hSw; (try dsimp only at hSw); go_simp) <;> with_reducible rfl
            simp only [Act.put, List.getElem_toArray, List.getElem_cons_succ, List.getElem_cons_zero, List.setIfInBounds_toArray, List.set_cons_zero, List.set_cons_succ]
            refine wpAnyH_ready (rs := [8]) (by kernel_rfl) (by simp) ?_
            refine AllReadyH.cons (o := _) rfl (fun K9 hK => ?_) AllReadyH.nil
            go_simp
            refine HT.out.1.mono ?_
            rintro e w8 ⟨At, ct, zt, rfl, hrt, hst, k8⟩
            rw [HT.out.2.1] at hrt hst
            rw [HT.out.2.1, HT.out.2.2.1]
            have hlt := hrt.ls
            rw [hst] at hlt
            have kk8 : Kept (fun _ => False) W w8 := (Kept.refl (fun _ => False) W).drew.next (Kept.of_grown (F := fun _ => False) k8 fun _ e => by cases e) (fun _ _ h => h)
            have H8 := Lib.hid (And.intro hlt kk8)
            clear hrt hst hlt k8
            go_wp2_with fail
            refine hK.out _ _ (SH.out w8 (kk8.mono (fun _ _ h => h.elim))) (fun hHeld => ?_)
            clear hK K9
            try simp only [Act.put, List.setIfInBounds_toArray, List.set_cons_zero, List.set_cons_succ]
            refine wpAnyH_ready (rs := [12]) (by kernel_rfl) (by simp) ?_
            refine AllReadyH.cons (o := _) rfl (fun K9 hK => ?_) AllReadyH.nil
            go_simp
            refine (samelists_is w8 At (some ⟨gu, 0, none⟩) ct _ (m - K.toNat) (L.drop k) HT.out.2.2.1 (by omega) H8.out.1 (HAX.out w8 H8.out.2)).mono ?_
            rintro e w9 ⟨rfl, k9⟩
            have kk9 := H8.out.2.next (Kept.of_grown (F := fun _ => False) k9 fun _ e => by cases e) (fun _ _ h => h)
            have c9 := (HB1.out w9 kk9).1
            have f9 := (HB1.out w9 kk9).2
            have H9 := Lib.hid kk9
            clear k9
            go_wp2_with fail
            refine hK.out _ _ (SH.out w9 (kk9.mono (fun _ _ h => h.elim))) (fun hHeld => ?_)
            clear hK K9
            try simp only [Act.put, List.setIfInBounds_toArray, List.set_cons_zero, List.set_cons_succ]
            refine wpAnyH_take (i := 13) (oi := _) (v := ?vd113b) rfl (by kernel_rfl) (by kernel_rfl) (by kernel_rfl) (fun _ _ _ h => by cases h.1) (Or.inl ⟨by rfl, ?hyd113b⟩) (by assumption) ?restd113b
            case hyd113b => (intro V hSw; (try dsimp only at hSw); go_simp) <;> with_reducible rfl
            simp only [Act.put, List.getElem_toArray, List.getElem_cons_succ, List.getElem_cons_zero, List.setIfInBounds_toArray, List.set_cons_zero, List.set_cons_succ]
            refine wpAnyH_ready (rs := [14]) (by kernel_rfl) (by simp) ?_
            refine AllReadyH.cons (o := _) rfl (fun K9 hK => ?_) AllReadyH.nil
            go_simp
            have kk10 : Kept (fun j => j = w.heap.size + 1) W (w9.setCell ⟨w.heap.size + 1, 0, none⟩ (.bool true)) := (kk9.mono (G := fun j => j = w.heap.size + 1) (fun _ _ h => h.elim)).set (p := ⟨w.heap.size + 1, 0, none⟩) (.inl rfl) _
            refine hK.out _ _ (SH.out _ kk10) (fun hHeld => ?_)
            clear hK K9 hHeld
            refine wpAnyH_done (by kernel_rfl) ?_ _
            exact FIN.out w9 kk9 _ rfl rfl
          · refine wpIn_region_held_wide (S := fun V => V.cell? ⟨w5.heap.size + 1, 0, none⟩ = some (.int .i64 K) ∧ V.cell? ⟨w.heap.size, 0, none⟩ = some (.int .i64 q1) ∧ V.cell? ⟨w5.heap.size, 0, none⟩ = some (.slice (some ⟨gu, 0, none⟩) m cu) ∧ V.cell? ⟨p + 1, 0, none⟩ = some (.pointer (some ⟨p, 0, none⟩))) (by kernel_rfl) (by kernel_rfl) (by rintro ⟨_, _, h, _⟩; cases h) (SH.out W.drew (Kept.refl _ W).drew) (fun hHeld => ?_)
            refine wpAnyH_take (i := 0) (oi := _) (v := ?vd10c) rfl (by kernel_rfl) (by kernel_rfl) (by kernel_rfl) (fun _ _ _ h => by cases h.1) (Or.inl ⟨by rfl, ?hyd10c⟩) (by assumption) ?restd10c
            case hyd10c => (intro V hSw; (try dsimp only at hSw); go_simp) <;> with_reducible rfl
            simp only [Act.put, List.getElem_toArray, List.getElem_cons_zero, List.setIfInBounds_toArray, List.set_cons_zero, List.set_cons_succ]
            refine wpAnyH_take (i := 1) (oi := _) (v := ?vd11c) rfl (by kernel_rfl) (by kernel_rfl) (by kernel_rfl) (fun _ _ _ h => by cases h.1) (Or.inl ⟨by rfl, ?hyd11c⟩) (by assumption) ?restd11c
            case hyd11c => (intro V hSw; (try dsimp only at hSw); go_simp) <;> with_reducible rfl
            simp only [Act.put, List.getElem_toArray, List.getElem_cons_succ, List.getElem_cons_zero, List.setIfInBounds_toArray, List.set_cons_zero, List.set_cons_succ]
            refine wpAnyH_take (i := 2) (oi := _) (v := ?vd12c) rfl (by kernel_rfl) (by kernel_rfl) (by kernel_rfl) (fun _ _ _ h => by cases h.1) (Or.inl ⟨by rfl, ?hyd12c⟩) (by assumption) ?restd12c
            case hyd12c => (intro V hSw; (try dsimp only at hSw); go_simp) <;> with_reducible rfl
            simp only [Act.put, List.getElem_toArray, List.getElem_cons_succ, List.getElem_cons_zero, List.setIfInBounds_toArray, List.set_cons_zero, List.set_cons_succ]
            refine wpAnyH_take (i := 3) (oi := _) (v := ?vd13c) rfl (by kernel_rfl) (by kernel_rfl) (by kernel_rfl) (fun _ _ _ h => by cases h.1) (Or.inl ⟨by rfl, ?hyd13c⟩) (by assumption) ?restd13c
            case hyd13c => (intro V hSw; (try dsimp only at hSw); go_simp) <;> with_reducible rfl
            simp only [Act.put, List.getElem_toArray, List.getElem_cons_succ, List.getElem_cons_zero, List.setIfInBounds_toArray, List.set_cons_zero, List.set_cons_succ]
            refine wpAnyH_take (i := 4) (oi := _) (v := ?vd14c) rfl (by kernel_rfl) (by kernel_rfl) (by kernel_rfl) (fun _ _ _ h => by cases h.1) (Or.inl ⟨by rfl, ?hyd14c⟩) (by assumption) ?restd14c
            case hyd14c => (intro V hSw; (try dsimp only at hSw); go_simp) <;> with_reducible rfl
            simp only [Act.put, List.getElem_toArray, List.getElem_cons_succ, List.getElem_cons_zero, List.setIfInBounds_toArray, List.set_cons_zero, List.set_cons_succ]
            refine wpAnyH_take (i := 5) (oi := _) (v := ?vd15c) rfl (by kernel_rfl) (by kernel_rfl) (by kernel_rfl) (fun _ _ _ h => by cases h.1) (Or.inl ⟨by rfl, ?hyd15c⟩) (by assumption) ?restd15c
            case hyd15c => (intro V hSw; (try dsimp only at hSw); go_simp) <;> with_reducible rfl
            simp only [Act.put, List.getElem_toArray, List.getElem_cons_succ, List.getElem_cons_zero, List.setIfInBounds_toArray, List.set_cons_zero, List.set_cons_succ]
            refine wpAnyH_take (i := 6) (oi := _) (v := ?vd16c) rfl (by kernel_rfl) (by kernel_rfl) (by kernel_rfl) (fun _ _ _ h => by cases h.1) (Or.inl ⟨by rfl, ?hyd16c⟩) (by assumption) ?restd16c
            case hyd16c => (intro V hSw; (try dsimp only at hSw); go_simp) <;> with_reducible rfl
            simp only [Act.put, List.getElem_toArray, List.getElem_cons_succ, List.getElem_cons_zero, List.setIfInBounds_toArray, List.set_cons_zero, List.set_cons_succ]
            refine wpAnyH_take (i := 7) (oi := _) (v := ?vd17c) rfl (by kernel_rfl) (by kernel_rfl) (by kernel_rfl) (fun _ _ _ h => by cases h.1) (Or.inl ⟨by rfl, ?hyd17c⟩) (by assumption) ?restd17c
            case hyd17c => (intro V hSw; (try dsimp only at hSw); go_simp) <;> with_reducible rfl
            simp only [Act.put, List.getElem_toArray, List.getElem_cons_succ, List.getElem_cons_zero, List.setIfInBounds_toArray, List.set_cons_zero, List.set_cons_succ]
            refine wpAnyH_take (i := 9) (oi := _) (v := ?vd19c) rfl (by kernel_rfl) (by kernel_rfl) (by kernel_rfl) (fun _ _ _ h => by cases h.1) (Or.inl ⟨by rfl, ?hyd19c⟩) (by assumption) ?restd19c
            case hyd19c => (intro V hSw; (try dsimp only at hSw); go_simp) <;> with_reducible rfl
            simp only [Act.put, List.getElem_toArray, List.getElem_cons_succ, List.getElem_cons_zero, List.setIfInBounds_toArray, List.set_cons_zero, List.set_cons_succ]
            refine wpAnyH_take (i := 10) (oi := _) (v := ?vd110c) rfl (by kernel_rfl) (by kernel_rfl) (by kernel_rfl) (fun _ _ _ h => by cases h.1) (Or.inl ⟨by rfl, ?hyd110c⟩) (by assumption) ?restd110c
            case hyd110c => (intro V hSw; (try dsimp only at hSw); go_simp) <;> with_reducible rfl
            simp only [Act.put, List.getElem_toArray, List.getElem_cons_succ, List.getElem_cons_zero, List.setIfInBounds_toArray, List.set_cons_zero, List.set_cons_succ]
            refine wpAnyH_take (i := 11) (oi := _) (v := ?vd111c) rfl (by kernel_rfl) (by kernel_rfl) (by kernel_rfl) (fun _ _ _ h => by cases h.1) (Or.inl ⟨by rfl, ?hyd111c⟩) (by assumption) ?restd111c
            case hyd111c => (intro V hSw; (try dsimp only at hSw); go_simp) <;> with_reducible rfl
            simp only [Act.put, List.getElem_toArray, List.getElem_cons_succ, List.getElem_cons_zero, List.setIfInBounds_toArray, List.set_cons_zero, List.set_cons_succ]
            refine wpAnyH_ready (rs := [8]) (by kernel_rfl) (by simp) ?_
            refine AllReadyH.cons (o := _) rfl (fun K9 hK => ?_) AllReadyH.nil
            go_simp
            refine HT.out.1.mono ?_
            rintro e w8 ⟨At, ct, zt, rfl, hrt, hst, k8⟩
            rw [HT.out.2.1] at hrt hst
            rw [HT.out.2.1, HT.out.2.2.1]
            have hlt := hrt.ls
            rw [hst] at hlt
            have kk8 : Kept (fun _ => False) W w8 := (Kept.refl (fun _ => False) W).drew.next (Kept.of_grown (F := fun _ => False) k8 fun _ e => by cases e) (fun _ _ h => h)
            have H8 := Lib.hid (And.intro hlt kk8)
            clear hrt hst hlt k8
            go_wp2_with fail
            refine hK.out _ _ (SH.out w8 (kk8.mono (fun _ _ h => h.elim))) (fun hHeld => ?_)
            clear hK K9
            try simp only [Act.put, List.setIfInBounds_toArray, List.set_cons_zero, List.set_cons_succ]
            refine wpAnyH_ready (rs := [12]) (by kernel_rfl) (by simp) ?_
            refine AllReadyH.cons (o := _) rfl (fun K9 hK => ?_) AllReadyH.nil
            go_simp
            refine (samelists_is w8 At (some ⟨gu, K.toNat, none⟩) ct _ (m - K.toNat) (L.drop k) HT.out.2.2.1 (by omega) H8.out.1 (HAX.out w8 H8.out.2)).mono ?_
            rintro e w9 ⟨rfl, k9⟩
            have kk9 := H8.out.2.next (Kept.of_grown (F := fun _ => False) k9 fun _ e => by cases e) (fun _ _ h => h)
            have c9 := (HB1.out w9 kk9).1
            have f9 := (HB1.out w9 kk9).2
            have H9 := Lib.hid kk9
            clear k9
            go_wp2_with fail
            refine hK.out _ _ (SH.out w9 (kk9.mono (fun _ _ h => h.elim))) (fun hHeld => ?_)
            clear hK K9
            try simp only [Act.put, List.setIfInBounds_toArray, List.set_cons_zero, List.set_cons_succ]
            refine wpAnyH_take (i := 13) (oi := _) (v := ?vd113c) rfl (by kernel_rfl) (by kernel_rfl) (by kernel_rfl) (fun _ _ _ h => by cases h.1) (Or.inl ⟨by rfl, ?hyd113c⟩) (by assumption) ?restd113c
            case hyd113c => (intro V hSw; (try dsimp only at hSw); go_simp) <;> with_reducible rfl
            simp only [Act.put, List.getElem_toArray, List.getElem_cons_succ, List.getElem_cons_zero, List.setIfInBounds_toArray, List.set_cons_zero, List.set_cons_succ]
            refine wpAnyH_ready (rs := [14]) (by kernel_rfl) (by simp) ?_
            refine AllReadyH.cons (o := _) rfl (fun K9 hK => ?_) AllReadyH.nil
            go_simp
            have kk10 : Kept (fun j => j = w.heap.size + 1) W (w9.setCell ⟨w.heap.size + 1, 0, none⟩ (.bool true)) := (kk9.mono (G := fun j => j = w.heap.size + 1) (fun _ _ h => h.elim)).set (p := ⟨w.heap.size + 1, 0, none⟩) (.inl rfl) _
            refine hK.out _ _ (SH.out _ kk10) (fun hHeld => ?_)
            clear hK K9 hHeld
            refine wpAnyH_done (by kernel_rfl) ?_ _
            exact FIN.out w9 kk9 _ rfl rfl
        · have dA : ((m : Int) < q1) = True := eq_true (by omega)
          have dB : (K = (m : Int)) = True := eq_true (eq_of_beq dk)
          have dC : m = 0 → ((0 : Int) < q1) = True := fun h => by rw [← dA, h]; rfl
          have dD : m = 0 → (K = 0) = True := fun h => by rw [← dB, h]; rfl
          rcases hcase with ⟨rfl, rfl, hm0, hc0⟩ | ⟨gu, rfl, hmc, ⟨hcu, rfl⟩ | ⟨hcu, rfl⟩⟩
          · have hK00 : K = 0 := by have := eq_of_beq dk; omega
            subst hK00
            subst hm0
            subst hc0
            clear dA dB dC dD
            have dA : ((0 : Int) < q1) = True := eq_true (by omega)
            refine wpIn_region_held_wide (S := fun V => V.cell? ⟨w5.heap.size + 1, 0, none⟩ = some (.int .i64 0) ∧ V.cell? ⟨w.heap.size, 0, none⟩ = some (.int .i64 q1) ∧ V.cell? ⟨w5.heap.size, 0, none⟩ = some (.slice none 0 0) ∧ V.cell? ⟨p + 1, 0, none⟩ = some (.pointer (some ⟨p, 0, none⟩))) (by kernel_rfl) (by kernel_rfl) (by rintro ⟨_, _, h, _⟩; cases h) (SH.out W.drew (Kept.refl _ W).drew) (fun hHeld => ?_)
            refine wpAnyH_take (i := 0) (oi := _) (v := ?vd20a) rfl (by kernel_rfl) (by kernel_rfl) (by kernel_rfl) (fun _ _ _ h => by cases h.1) (Or.inl ⟨by rfl, ?hyd20a⟩) (by assumption) ?restd20a
            case hyd20a => (intro V hSw; (try dsimp only at hSw); go_simp) <;> with_reducible rfl
            simp only [Act.put, List.getElem_toArray, List.getElem_cons_zero, List.setIfInBounds_toArray, List.set_cons_zero, List.set_cons_succ]
            refine wpAnyH_take (i := 1) (oi := _) (v := ?vd21a) rfl (by kernel_rfl) (by kernel_rfl) (by kernel_rfl) (fun _ _ _ h => by cases h.1) (Or.inl ⟨by rfl, ?hyd21a⟩) (by assumption) ?restd21a
            case hyd21a => (intro V hSw; (try dsimp only at hSw); go_simp) <;> with_reducible rfl
            simp only [Act.put, List.getElem_toArray, List.getElem_cons_succ, List.getElem_cons_zero, List.setIfInBounds_toArray, List.set_cons_zero, List.set_cons_succ]
            refine wpAnyH_take (i := 2) (oi := _) (v := ?vd22a) rfl (by kernel_rfl) (by kernel_rfl) (by kernel_rfl) (fun _ _ _ h => by cases h.1) (Or.inl ⟨by rfl, ?hyd22a⟩) (by assumption) ?restd22a
            case hyd22a => (intro V hSw; (try dsimp only at hSw); go_simp) <;> with_reducible rfl
            simp only [Act.put, List.getElem_toArray, List.getElem_cons_succ, List.getElem_cons_zero, List.setIfInBounds_toArray, List.set_cons_zero, List.set_cons_succ]
            refine wpAnyH_take (i := 3) (oi := _) (v := ?vd23a) rfl (by kernel_rfl) (by kernel_rfl) (by kernel_rfl) (fun _ _ _ h => by cases h.1) (Or.inl ⟨by rfl, ?hyd23a⟩) (by assumption) ?restd23a
            case hyd23a => (intro V hSw; (try dsimp only at hSw); go_simp) <;> with_reducible rfl
            simp only [Act.put, List.getElem_toArray, List.getElem_cons_succ, List.getElem_cons_zero, List.setIfInBounds_toArray, List.set_cons_zero, List.set_cons_succ]
            refine wpAnyH_take (i := 4) (oi := _) (v := ?vd24a) rfl (by kernel_rfl) (by kernel_rfl) (by kernel_rfl) (fun _ _ _ h => by cases h.1) (Or.inl ⟨by rfl, ?hyd24a⟩) (by assumption) ?restd24a
            case hyd24a => (intro V hSw; (try dsimp only at hSw); go_simp) <;> with_reducible rfl
            simp only [Act.put, List.getElem_toArray, List.getElem_cons_succ, List.getElem_cons_zero, List.setIfInBounds_toArray, List.set_cons_zero, List.set_cons_succ]
            refine wpAnyH_take (i := 5) (oi := _) (v := ?vd25a) rfl (by kernel_rfl) (by kernel_rfl) (by kernel_rfl) (fun _ _ _ h => by cases h.1) (Or.inl ⟨by rfl, ?hyd25a⟩) (by assumption) ?restd25a
            case hyd25a => (intro V hSw; (try dsimp only at hSw); go_simp) <;> with_reducible rfl
            simp only [Act.put, List.getElem_toArray, List.getElem_cons_succ, List.getElem_cons_zero, List.setIfInBounds_toArray, List.set_cons_zero, List.set_cons_succ]
            refine wpAnyH_take (i := 6) (oi := _) (v := ?vd26a) rfl (by kernel_rfl) (by kernel_rfl) (by kernel_rfl) (fun _ _ _ h => by cases h.1) (Or.inl ⟨by rfl, ?hyd26a⟩) (by assumption) ?restd26a
            case hyd26a => (intro V hSw; (try dsimp only at hSw); go_simp) <;> with_reducible rfl
            simp only [Act.put, List.getElem_toArray, List.getElem_cons_succ, List.getElem_cons_zero, List.setIfInBounds_toArray, List.set_cons_zero, List.set_cons_succ]
            refine wpAnyH_take (i := 7) (oi := _) (v := ?vd27a) rfl (by kernel_rfl) (by kernel_rfl) (by kernel_rfl) (fun _ _ _ h => by cases h.1) (Or.inl ⟨by rfl, ?hyd27a⟩) (by assumption) ?restd27a
            case hyd27a => (intro V hSw; (try dsimp only at hSw); go_simp) <;> with_reducible rfl
            simp only [Act.put, List.getElem_toArray, List.getElem_cons_succ, List.getElem_cons_zero, List.setIfInBounds_toArray, List.set_cons_zero, List.set_cons_succ]
            refine wpAnyH_take (i := 9) (oi := _) (v := ?vd29a) rfl (by kernel_rfl) (by kernel_rfl) (by kernel_rfl) (fun _ _ _ h => by cases h.1) (Or.inl ⟨by rfl, ?hyd29a⟩) (by assumption) ?restd29a
            case hyd29a => (intro V hSw; (try dsimp only at hSw); go_simp) <;> with_reducible rfl
            simp only [Act.put, List.getElem_toArray, List.getElem_cons_succ, List.getElem_cons_zero, List.setIfInBounds_toArray, List.set_cons_zero, List.set_cons_succ]
            refine wpAnyH_take (i := 10) (oi := _) (v := ?vd210a) rfl (by kernel_rfl) (by kernel_rfl) (by kernel_rfl) (fun _ _ _ h => by cases h.1) (Or.inl ⟨by rfl, ?hyd210a⟩) (by assumption) ?restd210a
            case hyd210a => (intro V hSw; (try dsimp only at hSw); go_simp) <;> with_reducible rfl
            simp only [Act.put, List.getElem_toArray, List.getElem_cons_succ, List.getElem_cons_zero, List.setIfInBounds_toArray, List.set_cons_zero, List.set_cons_succ]
            refine wpAnyH_take (i := 11) (oi := _) (v := ?vd211a) rfl (by kernel_rfl) (by kernel_rfl) (by kernel_rfl) (fun _ _ _ h => by cases h.1) (Or.inl ⟨by rfl, ?hyd211a⟩) (by assumption) ?restd211a
            case hyd211a => (intro V hSw; (try dsimp only at hSw); go_simp) <;> with_reducible rfl
            simp only [Act.put, List.getElem_toArray, List.getElem_cons_succ, List.getElem_cons_zero, List.setIfInBounds_toArray, List.set_cons_zero, List.set_cons_succ]
            refine wpAnyH_ready (rs := [8]) (by kernel_rfl) (by simp) ?_
            refine AllReadyH.cons (o := _) rfl (fun K9 hK => ?_) AllReadyH.nil
            go_simp
            refine HT.out.1.mono ?_
            rintro e w8 ⟨At, ct, zt, rfl, hrt, hst, k8⟩
            rw [HT.out.2.1] at hrt hst
            rw [HT.out.2.1, HT.out.2.2.1]
            have hlt := hrt.ls
            rw [hst] at hlt
            have kk8 : Kept (fun _ => False) W w8 := (Kept.refl (fun _ => False) W).drew.next (Kept.of_grown (F := fun _ => False) k8 fun _ e => by cases e) (fun _ _ h => h)
            have H8 := Lib.hid (And.intro hlt kk8)
            clear hrt hst hlt k8
            go_wp2_with fail
            refine hK.out _ _ (SH.out w8 (kk8.mono (fun _ _ h => h.elim))) (fun hHeld => ?_)
            clear hK K9
            try simp only [Act.put, List.setIfInBounds_toArray, List.set_cons_zero, List.set_cons_succ]
            refine wpAnyH_ready (rs := [12]) (by kernel_rfl) (by simp) ?_
            refine AllReadyH.cons (o := _) rfl (fun K9 hK => ?_) AllReadyH.nil
            go_simp
            refine (samelists_is w8 At none ct _ (0 - (0 : Int).toNat) (L.drop k) HT.out.2.2.1 (by omega) H8.out.1 (HAX.out w8 H8.out.2)).mono ?_
            rintro e w9 ⟨rfl, k9⟩
            have kk9 := H8.out.2.next (Kept.of_grown (F := fun _ => False) k9 fun _ e => by cases e) (fun _ _ h => h)
            have c9 := (HB1.out w9 kk9).1
            have f9 := (HB1.out w9 kk9).2
            have H9 := Lib.hid kk9
            clear k9
            go_wp2_with fail
            refine hK.out _ _ (SH.out w9 (kk9.mono (fun _ _ h => h.elim))) (fun hHeld => ?_)
            clear hK K9
            try simp only [Act.put, List.setIfInBounds_toArray, List.set_cons_zero, List.set_cons_succ]
            refine wpAnyH_take (i := 13) (oi := _) (v := ?vd213a) rfl (by kernel_rfl) (by kernel_rfl) (by kernel_rfl) (fun _ _ _ h => by cases h.1) (Or.inl ⟨by rfl, ?hyd213a⟩) (by assumption) ?restd213a
            case hyd213a => (intro V hSw; (try dsimp only at hSw); go_simp) <;> with_reducible rfl
            simp only [Act.put, List.getElem_toArray, List.getElem_cons_succ, List.getElem_cons_zero, List.setIfInBounds_toArray, List.set_cons_zero, List.set_cons_succ]
            refine wpAnyH_ready (rs := [14]) (by kernel_rfl) (by simp) ?_
            refine AllReadyH.cons (o := _) rfl (fun K9 hK => ?_) AllReadyH.nil
            go_simp
            have kk10 : Kept (fun j => j = w.heap.size + 1) W (w9.setCell ⟨w.heap.size + 1, 0, none⟩ (.bool true)) := (kk9.mono (G := fun j => j = w.heap.size + 1) (fun _ _ h => h.elim)).set (p := ⟨w.heap.size + 1, 0, none⟩) (.inl rfl) _
            refine hK.out _ _ (SH.out _ kk10) (fun hHeld => ?_)
            clear hK K9 hHeld
            refine wpAnyH_done (by kernel_rfl) ?_ _
            exact FIN.out w9 kk9 _ rfl rfl
          · refine wpIn_region_held_wide (S := fun V => V.cell? ⟨w5.heap.size + 1, 0, none⟩ = some (.int .i64 K) ∧ V.cell? ⟨w.heap.size, 0, none⟩ = some (.int .i64 q1) ∧ V.cell? ⟨w5.heap.size, 0, none⟩ = some (.slice (some ⟨gu, 0, none⟩) m cu) ∧ V.cell? ⟨p + 1, 0, none⟩ = some (.pointer (some ⟨p, 0, none⟩))) (by kernel_rfl) (by kernel_rfl) (by rintro ⟨_, _, h, _⟩; cases h) (SH.out W.drew (Kept.refl _ W).drew) (fun hHeld => ?_)
            refine wpAnyH_take (i := 0) (oi := _) (v := ?vd20b) rfl (by kernel_rfl) (by kernel_rfl) (by kernel_rfl) (fun _ _ _ h => by cases h.1) (Or.inl ⟨by rfl, ?hyd20b⟩) (by assumption) ?restd20b
            case hyd20b => (intro V hSw; (try dsimp only at hSw); go_simp) <;> with_reducible rfl
            simp only [Act.put, List.getElem_toArray, List.getElem_cons_zero, List.setIfInBounds_toArray, List.set_cons_zero, List.set_cons_succ]
            refine wpAnyH_take (i := 1) (oi := _) (v := ?vd21b) rfl (by kernel_rfl) (by kernel_rfl) (by kernel_rfl) (fun _ _ _ h => by cases h.1) (Or.inl ⟨by rfl, ?hyd21b⟩) (by assumption) ?restd21b
            case hyd21b => (intro V hSw; (try dsimp only at hSw); go_simp) <;> with_reducible rfl
            simp only [Act.put, List.getElem_toArray, List.getElem_cons_succ, List.getElem_cons_zero, List.setIfInBounds_toArray, List.set_cons_zero, List.set_cons_succ]
            refine wpAnyH_take (i := 2) (oi := _) (v := ?vd22b) rfl (by kernel_rfl) (by kernel_rfl) (by kernel_rfl) (fun _ _ _ h => by cases h.1) (Or.inl ⟨by rfl, ?hyd22b⟩) (by assumption) ?restd22b
            case hyd22b => (intro V hSw; (try dsimp only at hSw); go_simp) <;> with_reducible rfl
            simp only [Act.put, List.getElem_toArray, List.getElem_cons_succ, List.getElem_cons_zero, List.setIfInBounds_toArray, List.set_cons_zero, List.set_cons_succ]
            refine wpAnyH_take (i := 3) (oi := _) (v := ?vd23b) rfl (by kernel_rfl) (by kernel_rfl) (by kernel_rfl) (fun _ _ _ h => by cases h.1) (Or.inl ⟨by rfl, ?hyd23b⟩) (by assumption) ?restd23b
            case hyd23b => (intro V hSw; (try dsimp only at hSw); go_simp) <;> with_reducible rfl
            simp only [Act.put, List.getElem_toArray, List.getElem_cons_succ, List.getElem_cons_zero, List.setIfInBounds_toArray, List.set_cons_zero, List.set_cons_succ]
            refine wpAnyH_take (i := 4) (oi := _) (v := ?vd24b) rfl (by kernel_rfl) (by kernel_rfl) (by kernel_rfl) (fun _ _ _ h => by cases h.1) (Or.inl ⟨by rfl, ?hyd24b⟩) (by assumption) ?restd24b
            case hyd24b => (intro V hSw; (try dsimp only at hSw); go_simp) <;> with_reducible rfl
            simp only [Act.put, List.getElem_toArray, List.getElem_cons_succ, List.getElem_cons_zero, List.setIfInBounds_toArray, List.set_cons_zero, List.set_cons_succ]
            refine wpAnyH_take (i := 5) (oi := _) (v := ?vd25b) rfl (by kernel_rfl) (by kernel_rfl) (by kernel_rfl) (fun _ _ _ h => by cases h.1) (Or.inl ⟨by rfl, ?hyd25b⟩) (by assumption) ?restd25b
            case hyd25b => (intro V hSw; (try dsimp only at hSw); go_simp) <;> with_reducible rfl
            simp only [Act.put, List.getElem_toArray, List.getElem_cons_succ, List.getElem_cons_zero, List.setIfInBounds_toArray, List.set_cons_zero, List.set_cons_succ]
            refine wpAnyH_take (i := 6) (oi := _) (v := ?vd26b) rfl (by kernel_rfl) (by kernel_rfl) (by kernel_rfl) (fun _ _ _ h => by cases h.1) (Or.inl ⟨by rfl, ?hyd26b⟩) (by assumption) ?restd26b
            case hyd26b => (intro V hSw; (try dsimp only at hSw); go_simp) <;> with_reducible rfl
            simp only [Act.put, List.getElem_toArray, List.getElem_cons_succ, List.getElem_cons_zero, List.setIfInBounds_toArray, List.set_cons_zero, List.set_cons_succ]
            refine wpAnyH_take (i := 7) (oi := _) (v := ?vd27b) rfl (by kernel_rfl) (by kernel_rfl) (by kernel_rfl) (fun _ _ _ h => by cases h.1) (Or.inl ⟨by rfl, ?hyd27b⟩) (by assumption) ?restd27b
            case hyd27b => (intro V hSw; (try dsimp only at hSw); go_simp) <;> with_reducible rfl
            simp only [Act.put, List.getElem_toArray, List.getElem_cons_succ, List.getElem_cons_zero, List.setIfInBounds_toArray, List.set_cons_zero, List.set_cons_succ]
            refine wpAnyH_take (i := 9) (oi := _) (v := ?vd29b) rfl (by kernel_rfl) (by kernel_rfl) (by kernel_rfl) (fun _ _ _ h => by cases h.1) (Or.inl ⟨by rfl, ?hyd29b⟩) (by assumption) ?restd29b
            case hyd29b => (intro V hSw; (try dsimp only at hSw); go_simp) <;> with_reducible rfl
            simp only [Act.put, List.getElem_toArray, List.getElem_cons_succ, List.getElem_cons_zero, List.setIfInBounds_toArray, List.set_cons_zero, List.set_cons_succ]
            refine wpAnyH_take (i := 10) (oi := _) (v := ?vd210b) rfl (by kernel_rfl) (by kernel_rfl) (by kernel_rfl) (fun _ _ _ h => by cases h.1) (Or.inl ⟨by rfl, ?hyd210b⟩) (by assumption) ?restd210b
            case hyd210b => (intro V hSw; (try dsimp only at hSw); go_simp) <;> with_reducible rfl
            simp only [Act.put, List.getElem_toArray, List.getElem_cons_succ, List.getElem_cons_zero, List.setIfInBounds_toArray, List.set_cons_zero, List.set_cons_succ]
            refine wpAnyH_take (i := 11) (oi := _) (v := ?vd211b) rfl (by kernel_rfl) (by kernel_rfl) (by kernel_rfl) (fun _ _ _ h => by cases h.1) (Or.inl ⟨by rfl, ?hyd211b⟩) (by assumption) ?restd211b
            case hyd211b => (intro V hSw; (try dsimp only at hSw); go_simp) <;> with_reducible rfl
            simp only [Act.put, List.getElem_toArray, List.getElem_cons_succ, List.getElem_cons_zero, List.setIfInBounds_toArray, List.set_cons_zero, List.set_cons_succ]
            refine wpAnyH_ready (rs := [8]) (by kernel_rfl) (by simp) ?_
            refine AllReadyH.cons (o := _) rfl (fun K9 hK => ?_) AllReadyH.nil
            go_simp
            refine HT.out.1.mono ?_
            rintro e w8 ⟨At, ct, zt, rfl, hrt, hst, k8⟩
            rw [HT.out.2.1] at hrt hst
            rw [HT.out.2.1, HT.out.2.2.1]
            have hlt := hrt.ls
            rw [hst] at hlt
            have kk8 : Kept (fun _ => False) W w8 := (Kept.refl (fun _ => False) W).drew.next (Kept.of_grown (F := fun _ => False) k8 fun _ e => by cases e) (fun _ _ h => h)
            have H8 := Lib.hid (And.intro hlt kk8)
            clear hrt hst hlt k8
            go_wp2_with fail
            refine hK.out _ _ (SH.out w8 (kk8.mono (fun _ _ h => h.elim))) (fun hHeld => ?_)
            clear hK K9
            try simp only [Act.put, List.setIfInBounds_toArray, List.set_cons_zero, List.set_cons_succ]
            refine wpAnyH_ready (rs := [12]) (by kernel_rfl) (by simp) ?_
            refine AllReadyH.cons (o := _) rfl (fun K9 hK => ?_) AllReadyH.nil
            go_simp
            refine (samelists_is w8 At (some ⟨gu, 0, none⟩) ct _ (m - K.toNat) (L.drop k) HT.out.2.2.1 (by omega) H8.out.1 (HAX.out w8 H8.out.2)).mono ?_
            rintro e w9 ⟨rfl, k9⟩
            have kk9 := H8.out.2.next (Kept.of_grown (F := fun _ => False) k9 fun _ e => by cases e) (fun _ _ h => h)
            have c9 := (HB1.out w9 kk9).1
            have f9 := (HB1.out w9 kk9).2
            have H9 := Lib.hid kk9
            clear k9
            go_wp2_with fail
            refine hK.out _ _ (SH.out w9 (kk9.mono (fun _ _ h => h.elim))) (fun hHeld => ?_)
            clear hK K9
            try simp only [Act.put, List.setIfInBounds_toArray, List.set_cons_zero, List.set_cons_succ]
            refine wpAnyH_take (i := 13) (oi := _) (v := ?vd213b) rfl (by kernel_rfl) (by kernel_rfl) (by kernel_rfl) (fun _ _ _ h => by cases h.1) (Or.inl ⟨by rfl, ?hyd213b⟩) (by assumption) ?restd213b
            case hyd213b => (intro V hSw; (try dsimp only at hSw); go_simp) <;> with_reducible rfl
            simp only [Act.put, List.getElem_toArray, List.getElem_cons_succ, List.getElem_cons_zero, List.setIfInBounds_toArray, List.set_cons_zero, List.set_cons_succ]
            refine wpAnyH_ready (rs := [14]) (by kernel_rfl) (by simp) ?_
            refine AllReadyH.cons (o := _) rfl (fun K9 hK => ?_) AllReadyH.nil
            go_simp
            have kk10 : Kept (fun j => j = w.heap.size + 1) W (w9.setCell ⟨w.heap.size + 1, 0, none⟩ (.bool true)) := (kk9.mono (G := fun j => j = w.heap.size + 1) (fun _ _ h => h.elim)).set (p := ⟨w.heap.size + 1, 0, none⟩) (.inl rfl) _
            refine hK.out _ _ (SH.out _ kk10) (fun hHeld => ?_)
            clear hK K9 hHeld
            refine wpAnyH_done (by kernel_rfl) ?_ _
            exact FIN.out w9 kk9 _ rfl rfl
          · refine wpIn_region_held_wide (S := fun V => V.cell? ⟨w5.heap.size + 1, 0, none⟩ = some (.int .i64 K) ∧ V.cell? ⟨w.heap.size, 0, none⟩ = some (.int .i64 q1) ∧ V.cell? ⟨w5.heap.size, 0, none⟩ = some (.slice (some ⟨gu, 0, none⟩) m cu) ∧ V.cell? ⟨p + 1, 0, none⟩ = some (.pointer (some ⟨p, 0, none⟩))) (by kernel_rfl) (by kernel_rfl) (by rintro ⟨_, _, h, _⟩; cases h) (SH.out W.drew (Kept.refl _ W).drew) (fun hHeld => ?_)
            refine wpAnyH_take (i := 0) (oi := _) (v := ?vd20c) rfl (by kernel_rfl) (by kernel_rfl) (by kernel_rfl) (fun _ _ _ h => by cases h.1) (Or.inl ⟨by rfl, ?hyd20c⟩) (by assumption) ?restd20c
            case hyd20c => (intro V hSw; (try dsimp only at hSw); go_simp) <;> with_reducible rfl
            simp only [Act.put, List.getElem_toArray, List.getElem_cons_zero, List.setIfInBounds_toArray, List.set_cons_zero, List.set_cons_succ]
            refine wpAnyH_take (i := 1) (oi := _) (v := ?vd21c) rfl (by kernel_rfl) (by kernel_rfl) (by kernel_rfl) (fun _ _ _ h => by cases h.1) (Or.inl ⟨by rfl, ?hyd21c⟩) (by assumption) ?restd21c
            case hyd21c => (intro V hSw; (try dsimp only at hSw); go_simp) <;> with_reducible rfl
            simp only [Act.put, List.getElem_toArray, List.getElem_cons_succ, List.getElem_cons_zero, List.setIfInBounds_toArray, List.set_cons_zero, List.set_cons_succ]
            refine wpAnyH_take (i := 2) (oi := _) (v := ?vd22c) rfl (by kernel_rfl) (by kernel_rfl) (by kernel_rfl) (fun _ _ _ h => by cases h.1) (Or.inl ⟨by rfl, ?hyd22c⟩) (by assumption) ?restd22c
            case hyd22c => (intro V hSw; (try dsimp only at hSw); go_simp) <;> with_reducible rfl
            simp only [Act.put, List.getElem_toArray, List.getElem_cons_succ, List.getElem_cons_zero, List.setIfInBounds_toArray, List.set_cons_zero, List.set_cons_succ]
            refine wpAnyH_take (i := 3) (oi := _) (v := ?vd23c) rfl (by kernel_rfl) (by kernel_rfl) (by kernel_rfl) (fun _ _ _ h => by cases h.1) (Or.inl ⟨by rfl, ?hyd23c⟩) (by assumption) ?restd23c
            case hyd23c => (intro V hSw; (try dsimp only at hSw); go_simp) <;> with_reducible rfl
            simp only [Act.put, List.getElem_toArray, List.getElem_cons_succ, List.getElem_cons_zero, List.setIfInBounds_toArray, List.set_cons_zero, List.set_cons_succ]
            refine wpAnyH_take (i := 4) (oi := _) (v := ?vd24c) rfl (by kernel_rfl) (by kernel_rfl) (by kernel_rfl) (fun _ _ _ h => by cases h.1) (Or.inl ⟨by rfl, ?hyd24c⟩) (by assumption) ?restd24c
            case hyd24c => (intro V hSw; (try dsimp only at hSw); go_simp) <;> with_reducible rfl
            simp only [Act.put, List.getElem_toArray, List.getElem_cons_succ, List.getElem_cons_zero, List.setIfInBounds_toArray, List.set_cons_zero, List.set_cons_succ]
            refine wpAnyH_take (i := 5) (oi := _) (v := ?vd25c) rfl (by kernel_rfl) (by kernel_rfl) (by kernel_rfl) (fun _ _ _ h => by cases h.1) (Or.inl ⟨by rfl, ?hyd25c⟩) (by assumption) ?restd25c
            case hyd25c => (intro V hSw; (try dsimp only at hSw); go_simp) <;> with_reducible rfl
            simp only [Act.put, List.getElem_toArray, List.getElem_cons_succ, List.getElem_cons_zero, List.setIfInBounds_toArray, List.set_cons_zero, List.set_cons_succ]
            refine wpAnyH_take (i := 6) (oi := _) (v := ?vd26c) rfl (by kernel_rfl) (by kernel_rfl) (by kernel_rfl) (fun _ _ _ h => by cases h.1) (Or.inl ⟨by rfl, ?hyd26c⟩) (by assumption) ?restd26c
            case hyd26c => (intro V hSw; (try dsimp only at hSw); go_simp) <;> with_reducible rfl
            simp only [Act.put, List.getElem_toArray, List.getElem_cons_succ, List.getElem_cons_zero, List.setIfInBounds_toArray, List.set_cons_zero, List.set_cons_succ]
            refine wpAnyH_take (i := 7) (oi := _) (v := ?vd27c) rfl (by kernel_rfl) (by kernel_rfl) (by kernel_rfl) (fun _ _ _ h => by cases h.1) (Or.inl ⟨by rfl, ?hyd27c⟩) (by assumption) ?restd27c
            case hyd27c => (intro V hSw; (try dsimp only at hSw); go_simp) <;> with_reducible rfl
            simp only [Act.put, List.getElem_toArray, List.getElem_cons_succ, List.getElem_cons_zero, List.setIfInBounds_toArray, List.set_cons_zero, List.set_cons_succ]
            refine wpAnyH_take (i := 9) (oi := _) (v := ?vd29c) rfl (by kernel_rfl) (by kernel_rfl) (by kernel_rfl) (fun _ _ _ h => by cases h.1) (Or.inl ⟨by rfl, ?hyd29c⟩) (by assumption) ?restd29c
            case hyd29c => (intro V hSw; (try dsimp only at hSw); go_simp) <;> with_reducible rfl
            simp only [Act.put, List.getElem_toArray, List.getElem_cons_succ, List.getElem_cons_zero, List.setIfInBounds_toArray, List.set_cons_zero, List.set_cons_succ]
            refine wpAnyH_take (i := 10) (oi := _) (v := ?vd210c) rfl (by kernel_rfl) (by kernel_rfl) (by kernel_rfl) (fun _ _ _ h => by cases h.1) (Or.inl ⟨by rfl, ?hyd210c⟩) (by assumption) ?restd210c
            case hyd210c => (intro V hSw; (try dsimp only at hSw); go_simp) <;> with_reducible rfl
            simp only [Act.put, List.getElem_toArray, List.getElem_cons_succ, List.getElem_cons_zero, List.setIfInBounds_toArray, List.set_cons_zero, List.set_cons_succ]
            refine wpAnyH_take (i := 11) (oi := _) (v := ?vd211c) rfl (by kernel_rfl) (by kernel_rfl) (by kernel_rfl) (fun _ _ _ h => by cases h.1) (Or.inl ⟨by rfl, ?hyd211c⟩) (by assumption) ?restd211c
            case hyd211c => (intro V hSw; (try dsimp only at hSw); go_simp) <;> with_reducible rfl
            simp only [Act.put, List.getElem_toArray, List.getElem_cons_succ, List.getElem_cons_zero, List.setIfInBounds_toArray, List.set_cons_zero, List.set_cons_succ]
            refine wpAnyH_ready (rs := [8]) (by kernel_rfl) (by simp) ?_
            refine AllReadyH.cons (o := _) rfl (fun K9 hK => ?_) AllReadyH.nil
            go_simp
            refine HT.out.1.mono ?_
            rintro e w8 ⟨At, ct, zt, rfl, hrt, hst, k8⟩
            rw [HT.out.2.1] at hrt hst
            rw [HT.out.2.1, HT.out.2.2.1]
            have hlt := hrt.ls
            rw [hst] at hlt
            have kk8 : Kept (fun _ => False) W w8 := (Kept.refl (fun _ => False) W).drew.next (Kept.of_grown (F := fun _ => False) k8 fun _ e => by cases e) (fun _ _ h => h)
            have H8 := Lib.hid (And.intro hlt kk8)
            clear hrt hst hlt k8
            go_wp2_with fail
            refine hK.out _ _ (SH.out w8 (kk8.mono (fun _ _ h => h.elim))) (fun hHeld => ?_)
            clear hK K9
            try simp only [Act.put, List.setIfInBounds_toArray, List.set_cons_zero, List.set_cons_succ]
            refine wpAnyH_ready (rs := [12]) (by kernel_rfl) (by simp) ?_
            refine AllReadyH.cons (o := _) rfl (fun K9 hK => ?_) AllReadyH.nil
            go_simp
            refine (samelists_is w8 At (some ⟨gu, K.toNat, none⟩) ct _ (m - K.toNat) (L.drop k) HT.out.2.2.1 (by omega) H8.out.1 (HAX.out w8 H8.out.2)).mono ?_
            rintro e w9 ⟨rfl, k9⟩
            have kk9 := H8.out.2.next (Kept.of_grown (F := fun _ => False) k9 fun _ e => by cases e) (fun _ _ h => h)
            have c9 := (HB1.out w9 kk9).1
            have f9 := (HB1.out w9 kk9).2
            have H9 := Lib.hid kk9
            clear k9
            go_wp2_with fail
            refine hK.out _ _ (SH.out w9 (kk9.mono (fun _ _ h => h.elim))) (fun hHeld => ?_)
            clear hK K9
            try simp only [Act.put, List.setIfInBounds_toArray, List.set_cons_zero, List.set_cons_succ]
            refine wpAnyH_take (i := 13) (oi := _) (v := ?vd213c) rfl (by kernel_rfl) (by kernel_rfl) (by kernel_rfl) (fun _ _ _ h => by cases h.1) (Or.inl ⟨by rfl, ?hyd213c⟩) (by assumption) ?restd213c
            case hyd213c => (intro V hSw; (try dsimp only at hSw); go_simp) <;> with_reducible rfl
            simp only [Act.put, List.getElem_toArray, List.getElem_cons_succ, List.getElem_cons_zero, List.setIfInBounds_toArray, List.set_cons_zero, List.set_cons_succ]
            refine wpAnyH_ready (rs := [14]) (by kernel_rfl) (by simp) ?_
            refine AllReadyH.cons (o := _) rfl (fun K9 hK => ?_) AllReadyH.nil
            go_simp
            have kk10 : Kept (fun j => j = w.heap.size + 1) W (w9.setCell ⟨w.heap.size + 1, 0, none⟩ (.bool true)) := (kk9.mono (G := fun j => j = w.heap.size + 1) (fun _ _ h => h.elim)).set (p := ⟨w.heap.size + 1, 0, none⟩) (.inl rfl) _
            refine hK.out _ _ (SH.out _ kk10) (fun hHeld => ?_)
            clear hK K9 hHeld
            refine wpAnyH_done (by kernel_rfl) ?_ _
            exact FIN.out w9 kk9 _ rfl rfl
      case stop =>
        rintro Dd c' pre W hD hk ⟨rfl, hI⟩ hKd

        obtain ⟨k, hIX, hkq, hkm⟩ : ∃ k, SomeI w.heap.size p w5.heap.size q1 Au m cu zu wr.heap.size S L W0 k W ∧ ((k : Int) = q1 ∨ (k = m ∧ (m : Int) ≤ q1)) ∧ k ≤ m := by obtain ⟨k, q1, q2, q3⟩ := hI; exact ⟨k, q1, .inl q2, by omega⟩
        obtain ⟨h1, h2, h3, h4, h5, h6, h7, h8, h9⟩ := hIX
        have c1 := h1.cell 0
        have c3 := h3.cell 0
        have c4 := h4.cell 0
        have c5 := h5.cell 0
        simp only [List.getElem?_toArray, List.getElem?_cons_zero] at c1 c3 c4 c5
        obtain ⟨K, hKk⟩ : ∃ K : Int, K = (k : Int) := ⟨_, rfl⟩
        rw [← hKk] at c5
        have hS0 : ∀ V, Kept (fun j => j = w.heap.size + 1) W V → V.cell? ⟨w5.heap.size + 1, 0, none⟩ = some (.int .i64 K) ∧ V.cell? ⟨w.heap.size, 0, none⟩ = some (.int .i64 q1) ∧ V.cell? ⟨w5.heap.size, 0, none⟩ = some (.slice Au m cu) ∧ V.cell? ⟨p + 1, 0, none⟩ = some (.pointer (some ⟨p, 0, none⟩)) := fun V hV => by
          have hwz := HM.out.2.2.1
          have hpz := HM.out.2.1
          have hp1 : p + 1 ≠ w.heap.size + 1 := fun e => by
            have h := h2
            rw [← e] at h
            have := h.symm.trans h3
            injection this with this
            injection this with q1 q2
            cases q1
          exact ⟨hV.cell c5 (by simp only; omega), hV.cell c1 (by simp), hV.cell c4 (by simp only; omega), hV.cell c3 hp1⟩
        have SH := Lib.hid hS0
        have hb1 : ∀ V, Kept (fun _ => False) W V → V.cell? ⟨w.heap.size + 1, 0, none⟩ = some (.bool false) ∧ V.frozen? ⟨w.heap.size + 1, 0, none⟩ = false := fun V hV => ⟨hV.cell (h2.cell 0) (fun h => h), (h2.kept hV (fun h => h)).frozen 0⟩
        have HB1 := Lib.hid hb1
        have hmin : (q1 ≤ (m : Int) ∧ (K == q1) = true) ∨ (¬ q1 ≤ (m : Int) ∧ (K == (m : Int)) = true) := by
          by_cases h : q1 ≤ (m : Int)
          · exact .inl ⟨h, by rw [beq_iff_eq]; omega⟩
          · exact .inr ⟨h, by rw [beq_iff_eq]; omega⟩
        have hLd : (L.drop k).length = m - K.toNat := by rw [List.length_drop, HM.out.1]; omega
        have htk : takeL 100 [] (L.drop k) = L.drop k := by rw [takeL, dropL_none, List.take_of_length_le]; rw [List.length_drop]; show L.length - k ≤ 100; omega
        have hsmd : ∀ y ∈ L.drop k, y.length ≤ 100000 := fun y hy => hsm y (List.mem_of_mem_drop hy)
        have hCT := pool_take W.drew S (fun _ => False) p (L.drop k) (h6.kept (Kept.refl (fun _ => False) W).drew (fun _ h => h.elim)) (by rw [List.length_drop]; omega) hsmd 100 none 0 0 [] rfl (by omega) (fun h => absurd rfl h) (fun _ h => h.elim)
        have hbnd : 0 ≤ K ∧ K ≤ (m : Int) ∧ K < 20 := by omega
        have hq20 : 0 ≤ q1 ∧ q1 < 20 := by omega
        have hm16 : m ≤ 16 := by have := HM.out.1; omega
        have HT := Lib.hid (And.intro hCT (And.intro htk (And.intro hLd h8)))
        have hAx : ∃ AX : Option Addr, (∀ V, Kept (fun _ => False) W V → LsAt V AX (L.drop k)) ∧ ((Au = none ∧ AX = none ∧ m = 0 ∧ cu = 0) ∨ (∃ gu, Au = some ⟨gu, 0, none⟩ ∧ m ≤ cu ∧ ((cu = K.toNat ∧ AX = some ⟨gu, 0, none⟩) ∨ (¬ cu = K.toNat ∧ AX = some ⟨gu, K.toNat, none⟩)))) := by
          rcases h7.1.2 with ⟨hv, h0⟩ | ⟨g, cap, cur, hv, _, _, hmc, _⟩
          · injection hv with e1 e2 e3
            refine ⟨none, fun V hV hne => absurd ?_ hne, .inl ⟨e1, rfl, h0, e3⟩⟩
            exact List.drop_eq_nil_of_le (by have := HM.out.1; omega)
          · injection hv with e1 e2 e3
            have hls : ∀ V, Kept (fun _ => False) W V → L.drop k ≠ [] → ∀ j (_ : j < (L.drop k).length), ∃ B c, V.cell? ⟨g, k + j, none⟩ = some (.slice B ((L.drop k)[j]).length c) ∧ BytesAt V B ((L.drop k)[j]) := fun V hV hne j hj => by
              have hr := h7.kept hV (fun _ h => h.elim)
              have hl := hr.ls
              rw [H5.out.2.1, e1] at hl
              obtain ⟨b, off, e, hc⟩ := hl (fun e => hne (by rw [e]; simp))
              injection e with e
              injection e with e4 e5
              subst e4
              have h0 : off = 0 := e5.symm
              subst h0
              obtain ⟨B, c, p1, p2⟩ := hc (k + j) (by rw [List.length_drop] at hj; omega)
              rw [Nat.zero_add] at p1
              rw [List.getElem_drop]
              exact ⟨B, c, p1, p2⟩
            by_cases hcu : cu = K.toNat
            · refine ⟨some ⟨g, 0, none⟩, fun V hV hne => absurd ?_ hne, .inr ⟨g, e1, by omega, .inl ⟨hcu, rfl⟩⟩⟩
              exact List.drop_eq_nil_of_le (by have := HM.out.1; omega)
            · refine ⟨some ⟨g, K.toNat, none⟩, fun V hV hne => ⟨g, K.toNat, rfl, fun j hj => ?_⟩, .inr ⟨g, e1, by omega, .inr ⟨hcu, rfl⟩⟩⟩
              rw [show K.toNat = k by omega]
              exact hls V hV hne j hj
        obtain ⟨AX, hax, hcase⟩ := hAx
        have HAX := Lib.hid hax
        have HKD := Lib.hid (And.intro hKd hD)
        have hK0 : 0 ≤ K := by omega
        clear h1 h2 h3 h4 h5 h6 h7 h8 h9 c1 c3 c4 c5 hS0 hb1 hLd htk hsmd hCT hax hKd hkq hkm hKk 
        have hfin : ∀ w9, Kept (fun _ => False) W w9 → ∀ a' : Act, a'.tmps.getD 4 undef = .pointer (some ⟨w.heap.size + 1, 0, none⟩) → a'.defers = [{ target := .collected Dd, args := #[] }] → SomeOut w (w.heap.size + 1) Dd .normal a' (w9.setCell ⟨w.heap.size + 1, 0, none⟩ (.bool true)) := fun w9 kk9 a' ha1 ha2 => by
          have h7 := H7.out.2.1
          have hwz := HM.out.2.2.1
          have hKz := HKD.out.2
          have kk10 : Kept (fun j => j = w.heap.size + 1) W (w9.setCell ⟨w.heap.size + 1, 0, none⟩ (.bool true)) := (kk9.mono (G := fun j => j = w.heap.size + 1) (fun _ _ h => h.elim)).set (p := ⟨w.heap.size + 1, 0, none⟩) (.inl rfl) _
          have kw5 : Kept (fun j => w.heap.size ≤ j) w w5 := (Kept.of_grown (F := fun j => w.heap.size ≤ j) HN.out.2.2 fun _ e => by cases e).next (Kept.of_grown (F := fun _ => False) H5.out.2.2.1 fun _ e => by cases e) (fun _ _ h => h.elim)
          have kw0 : Kept (fun j => w.heap.size ≤ j) w W0 := (kw5.next HW6.out.2.2.2.2.2.2 (fun j _ h => by have h : j = w.heap.size := h; omega)).next (Kept.of_grown (F := fun _ => False) H7.out.2.2.1 fun _ e => by cases e) (fun _ _ h => h.elim)
          have hws := kw5.size
          have kwW := kw0.next HT.out.2.2.2 (fun j _ h => by
            rcases h with h | h | h
            · have := H7.out.1 j h; omega
            · omega
            · omega)
          have hall := kwW.next kk10 (fun j _ h => by have h : j = w.heap.size + 1 := h; omega)
          refine ⟨rfl, ha1, ha2, ?_, (kk10.block Dd (Array.getElem?_eq_some_iff.1 HKD.out.1).1 (fun h => by omega)).trans HKD.out.1, by omega, by omega, hall.grownNone (fun j hj h => by omega)⟩
          exact World.cell?_setCell_same' _ _ _ (by rw [(HB1.out w9 kk9).1]; rfl)
        have FIN := Lib.hid hfin
        clear hfin
        gi_wp2
        refine wpIn_mono (Q := SomeOut w (w.heap.size + 1) Dd) ?reg2 ?out2
        case out2 =>
          rintro e ⟨tmps, defers⟩ w' ⟨rfl, h4, h5, h6, h7, h8, h9, h10⟩
          simp only at h4 h5
          subst h5
          gi_wp2
          refine ⟨by simp, .inl ⟨_, _, rfl, run_takeDeferred h7, ?_⟩⟩
          have hp := grownBy_putObj' w' Dd (.deferred none)
          refine ⟨_, results_cell rfl _ _ _ ⟨w.heap.size + 1, 0, none⟩ (.bool true) h4 (load_bool (hp.cell h6 (fun e => h8 (Option.some.inj e)))), rfl, grown_fresh h10 hp h9⟩
        rcases hmin with ⟨dm, dk⟩ | ⟨dm, dk⟩
        · have dA : ((m : Int) < q1) = False := eq_false (by omega)
          have dB : (K = q1) = True := eq_true (eq_of_beq dk)
          have dC : m = 0 → ((0 : Int) < q1) = False := fun h => by rw [← dA, h]; rfl
          have dD : m = 0 → (K = q1) = True := fun _ => dB
          rcases hcase with ⟨rfl, rfl, hm0, hc0⟩ | ⟨gu, rfl, hmc, ⟨hcu, rfl⟩ | ⟨hcu, rfl⟩⟩
          · have hK00 : K = 0 := by have := eq_of_beq dk; omega
            subst hK00
            have hq00 : q1 = 0 := by have := eq_of_beq dk; omega
            subst hq00
            subst hm0
            subst hc0
            clear dA dB dC dD
            refine wpIn_region_held_wide (S := fun V => V.cell? ⟨w5.heap.size + 1, 0, none⟩ = some (.int .i64 0) ∧ V.cell? ⟨w.heap.size, 0, none⟩ = some (.int .i64 0) ∧ V.cell? ⟨w5.heap.size, 0, none⟩ = some (.slice none 0 0) ∧ V.cell? ⟨p + 1, 0, none⟩ = some (.pointer (some ⟨p, 0, none⟩))) (by kernel_rfl) (by kernel_rfl) (by rintro ⟨_, _, h, _⟩; cases h) (SH.out W.drew (Kept.refl _ W).drew) (fun hHeld => ?_)
            refine wpAnyH_take (i := 0) (oi := _) (v := ?vs10a) rfl (by kernel_rfl) (by kernel_rfl) (by kernel_rfl) (fun _ _ _ h => by cases h.1) (Or.inl ⟨by rfl, ?hys10a⟩) (by assumption) ?rests10a
            case hys10a => (intro V hSw; (try dsimp only at hSw); go_simp) <;> with_reducible rfl
            simp only [Act.put, List.getElem_toArray, List.getElem_cons_zero, List.setIfInBounds_toArray, List.set_cons_zero, List.set_cons_succ]
            refine wpAnyH_take (i := 1) (oi := _) (v := ?vs11a) rfl (by kernel_rfl) (by kernel_rfl) (by kernel_rfl) (fun _ _ _ h => by cases h.1) (Or.inl ⟨by rfl, ?hys11a⟩) (by assumption) ?rests11a
            case hys11a => (intro V hSw; (try dsimp only at hSw); go_simp) <;> with_reducible rfl
            simp only [Act.put, List.getElem_toArray, List.getElem_cons_succ, List.getElem_cons_zero, List.setIfInBounds_toArray, List.set_cons_zero, List.set_cons_succ]
            refine wpAnyH_take (i := 2) (oi := _) (v := ?vs12a) rfl (by kernel_rfl) (by kernel_rfl) (by kernel_rfl) (fun _ _ _ h => by cases h.1) (Or.inl ⟨by rfl, ?hys12a⟩) (by assumption) ?rests12a
            case hys12a => (intro V hSw; (try dsimp only at hSw); go_simp) <;> with_reducible rfl
            simp only [Act.put, List.getElem_toArray, List.getElem_cons_succ, List.getElem_cons_zero, List.setIfInBounds_toArray, List.set_cons_zero, List.set_cons_succ]
            refine wpAnyH_take (i := 3) (oi := _) (v := ?vs13a) rfl (by kernel_rfl) (by kernel_rfl) (by kernel_rfl) (fun _ _ _ h => by cases h.1) (Or.inl ⟨by rfl, ?hys13a⟩) (by assumption) ?rests13a
            case hys13a => (intro V hSw; (try dsimp only at hSw); go_simp) <;> with_reducible rfl
            simp only [Act.put, List.getElem_toArray, List.getElem_cons_succ, List.getElem_cons_zero, List.setIfInBounds_toArray, List.set_cons_zero, List.set_cons_succ]
            refine wpAnyH_take (i := 4) (oi := _) (v := ?vs14a) rfl (by kernel_rfl) (by kernel_rfl) (by kernel_rfl) (fun _ _ _ h => by cases h.1) (Or.inl ⟨by rfl, ?hys14a⟩) (by assumption) ?rests14a
            case hys14a => (intro V hSw; (try dsimp only at hSw); go_simp) <;> with_reducible rfl
            simp only [Act.put, List.getElem_toArray, List.getElem_cons_succ, List.getElem_cons_zero, List.setIfInBounds_toArray, List.set_cons_zero, List.set_cons_succ]
            refine wpAnyH_take (i := 5) (oi := _) (v := ?vs15a) rfl (by kernel_rfl) (by kernel_rfl) (by kernel_rfl) (fun _ _ _ h => by cases h.1) (Or.inl ⟨by rfl, ?hys15a⟩) (by assumption) ?rests15a
            case hys15a => (intro V hSw; (try dsimp only at hSw); go_simp) <;> with_reducible rfl
            simp only [Act.put, List.getElem_toArray, List.getElem_cons_succ, List.getElem_cons_zero, List.setIfInBounds_toArray, List.set_cons_zero, List.set_cons_succ]
            refine wpAnyH_take (i := 6) (oi := _) (v := ?vs16a) rfl (by kernel_rfl) (by kernel_rfl) (by kernel_rfl) (fun _ _ _ h => by cases h.1) (Or.inl ⟨by rfl, ?hys16a⟩) (by assumption) ?rests16a
            case hys16a => (intro V hSw; (try dsimp only at hSw); go_simp) <;> with_reducible rfl
            simp only [Act.put, List.getElem_toArray, List.getElem_cons_succ, List.getElem_cons_zero, List.setIfInBounds_toArray, List.set_cons_zero, List.set_cons_succ]
            refine wpAnyH_take (i := 7) (oi := _) (v := ?vs17a) rfl (by kernel_rfl) (by kernel_rfl) (by kernel_rfl) (fun _ _ _ h => by cases h.1) (Or.inl ⟨by rfl, ?hys17a⟩) (by assumption) ?rests17a
            case hys17a => (intro V hSw; (try dsimp only at hSw); go_simp) <;> with_reducible rfl
            simp only [Act.put, List.getElem_toArray, List.getElem_cons_succ, List.getElem_cons_zero, List.setIfInBounds_toArray, List.set_cons_zero, List.set_cons_succ]
            refine wpAnyH_take (i := 9) (oi := _) (v := ?vs19a) rfl (by kernel_rfl) (by kernel_rfl) (by kernel_rfl) (fun _ _ _ h => by cases h.1) (Or.inl ⟨by rfl, ?hys19a⟩) (by assumption) ?rests19a
            case hys19a => (intro V hSw; (try dsimp only at hSw); go_simp) <;> with_reducible rfl
            simp only [Act.put, List.getElem_toArray, List.getElem_cons_succ, List.getElem_cons_zero, List.setIfInBounds_toArray, List.set_cons_zero, List.set_cons_succ]
            refine wpAnyH_take (i := 10) (oi := _) (v := ?vs110a) rfl (by kernel_rfl) (by kernel_rfl) (by kernel_rfl) (fun _ _ _ h => by cases h.1) (Or.inl ⟨by rfl, ?hys110a⟩) (by assumption) ?rests110a
            case hys110a => (intro V hSw; (try dsimp only at hSw); go_simp) <;> with_reducible rfl
            simp only [Act.put, List.getElem_toArray, List.getElem_cons_succ, List.getElem_cons_zero, List.setIfInBounds_toArray, List.set_cons_zero, List.set_cons_succ]
            refine wpAnyH_take (i := 11) (oi := _) (v := ?vs111a) rfl (by kernel_rfl) (by kernel_rfl) (by kernel_rfl) (fun _ _ _ h => by cases h.1) (Or.inl ⟨by rfl, ?hys111a⟩) (by assumption) ?rests111a
            case hys111a => (intro V hSw; (try dsimp only at hSw); go_simp) <;> with_reducible rfl
            simp only [Act.put, List.getElem_toArray, List.getElem_cons_succ, List.getElem_cons_zero, List.setIfInBounds_toArray, List.set_cons_zero, List.set_cons_succ]
            refine wpAnyH_ready (rs := [8]) (by kernel_rfl) (by simp) ?_
            refine AllReadyH.cons (o := _) rfl (fun K9 hK => ?_) AllReadyH.nil
            go_simp
            refine HT.out.1.mono ?_
            rintro e w8 ⟨At, ct, zt, rfl, hrt, hst, k8⟩
            rw [HT.out.2.1] at hrt hst
            rw [HT.out.2.1, HT.out.2.2.1]
            have hlt := hrt.ls
            rw [hst] at hlt
            have kk8 : Kept (fun _ => False) W w8 := (Kept.refl (fun _ => False) W).drew.next (Kept.of_grown (F := fun _ => False) k8 fun _ e => by cases e) (fun _ _ h => h)
            have H8 := Lib.hid (And.intro hlt kk8)
            clear hrt hst hlt k8
            go_wp2_with fail
            refine hK.out _ _ (SH.out w8 (kk8.mono (fun _ _ h => h.elim))) (fun hHeld => ?_)
            clear hK K9
            try simp only [Act.put, List.setIfInBounds_toArray, List.set_cons_zero, List.set_cons_succ]
            refine wpAnyH_ready (rs := [12]) (by kernel_rfl) (by simp) ?_
            refine AllReadyH.cons (o := _) rfl (fun K9 hK => ?_) AllReadyH.nil
            go_simp
            refine (samelists_is w8 At none ct _ (0 - (0 : Int).toNat) (L.drop k) HT.out.2.2.1 (by omega) H8.out.1 (HAX.out w8 H8.out.2)).mono ?_
            rintro e w9 ⟨rfl, k9⟩
            have kk9 := H8.out.2.next (Kept.of_grown (F := fun _ => False) k9 fun _ e => by cases e) (fun _ _ h => h)
            have c9 := (HB1.out w9 kk9).1
            have f9 := (HB1.out w9 kk9).2
            have H9 := Lib.hid kk9
            clear k9
            go_wp2_with fail
            refine hK.out _ _ (SH.out w9 (kk9.mono (fun _ _ h => h.elim))) (fun hHeld => ?_)
            clear hK K9
            try simp only [Act.put, List.setIfInBounds_toArray, List.set_cons_zero, List.set_cons_succ]
            refine wpAnyH_take (i := 13) (oi := _) (v := ?vs113a) rfl (by kernel_rfl) (by kernel_rfl) (by kernel_rfl) (fun _ _ _ h => by cases h.1) (Or.inl ⟨by rfl, ?hys113a⟩) (by assumption) ?rests113a
            case hys113a => (intro V hSw; (try dsimp only at hSw); go_simp) <;> with_reducible rfl
            simp only [Act.put, List.getElem_toArray, List.getElem_cons_succ, List.getElem_cons_zero, List.setIfInBounds_toArray, List.set_cons_zero, List.set_cons_succ]
            refine wpAnyH_ready (rs := [14]) (by kernel_rfl) (by simp) ?_
            refine AllReadyH.cons (o := _) rfl (fun K9 hK => ?_) AllReadyH.nil
            go_simp
            have kk10 : Kept (fun j => j = w.heap.size + 1) W (w9.setCell ⟨w.heap.size + 1, 0, none⟩ (.bool true)) := (kk9.mono (G := fun j => j = w.heap.size + 1) (fun _ _ h => h.elim)).set (p := ⟨w.heap.size + 1, 0, none⟩) (.inl rfl) _
            refine hK.out _ _ (SH.out _ kk10) (fun hHeld => ?_)
            clear hK K9 hHeld
            refine wpAnyH_done (by kernel_rfl) ?_ _
            exact FIN.out w9 kk9 _ rfl rfl
          · refine wpIn_region_held_wide (S := fun V => V.cell? ⟨w5.heap.size + 1, 0, none⟩ = some (.int .i64 K) ∧ V.cell? ⟨w.heap.size, 0, none⟩ = some (.int .i64 q1) ∧ V.cell? ⟨w5.heap.size, 0, none⟩ = some (.slice (some ⟨gu, 0, none⟩) m cu) ∧ V.cell? ⟨p + 1, 0, none⟩ = some (.pointer (some ⟨p, 0, none⟩))) (by kernel_rfl) (by kernel_rfl) (by rintro ⟨_, _, h, _⟩; cases h) (SH.out W.drew (Kept.refl _ W).drew) (fun hHeld => ?_)
            refine wpAnyH_take (i := 0) (oi := _) (v := ?vs10b) rfl (by kernel_rfl) (by kernel_rfl) (by kernel_rfl) (fun _ _ _ h => by cases h.1) (Or.inl ⟨by rfl, ?hys10b⟩) (by assumption) ?rests10b
            case hys10b => (intro V hSw; (try dsimp only at hSw); go_simp) <;> with_reducible rfl
            simp only [Act.put, List.getElem_toArray, List.getElem_cons_zero, List.setIfInBounds_toArray, List.set_cons_zero, List.set_cons_succ]
            refine wpAnyH_take (i := 1) (oi := _) (v := ?vs11b) rfl (by kernel_rfl) (by kernel_rfl) (by kernel_rfl) (fun _ _ _ h => by cases h.1) (Or.inl ⟨by rfl, ?hys11b⟩) (by assumption) ?rests11b
            case hys11b => (intro V hSw; (try dsimp only at hSw); go_simp) <;> with_reducible rfl
            simp only [Act.put, List.getElem_toArray, List.getElem_cons_succ, List.getElem_cons_zero, List.setIfInBounds_toArray, List.set_cons_zero, List.set_cons_succ]
            refine wpAnyH_take (i := 2) (oi := _) (v := ?vs12b) rfl (by kernel_rfl) (by kernel_rfl) (by kernel_rfl) (fun _ _ _ h => by cases h.1) (Or.inl ⟨by rfl, ?hys12b⟩) (by assumption) ?rests12b
            case hys12b => (intro V hSw; (try dsimp only at hSw); go_simp) <;> with_reducible rfl
            simp only [Act.put, List.getElem_toArray, List.getElem_cons_succ, List.getElem_cons_zero, List.setIfInBounds_toArray, List.set_cons_zero, List.set_cons_succ]
            refine wpAnyH_take (i := 3) (oi := _) (v := ?vs13b) rfl (by kernel_rfl) (by kernel_rfl) (by kernel_rfl) (fun _ _ _ h => by cases h.1) (Or.inl ⟨by rfl, ?hys13b⟩) (by assumption) ?rests13b
            case hys13b => (intro V hSw; (try dsimp only at hSw); go_simp) <;> with_reducible rfl
            simp only [Act.put, List.getElem_toArray, List.getElem_cons_succ, List.getElem_cons_zero, List.setIfInBounds_toArray, List.set_cons_zero, List.set_cons_succ]
            refine wpAnyH_take (i := 4) (oi := _) (v := ?vs14b) rfl (by kernel_rfl) (by kernel_rfl) (by kernel_rfl) (fun _ _ _ h => by cases h.1) (Or.inl ⟨by rfl, ?hys14b⟩) (by assumption) ?rests14b
            case hys14b => (intro V hSw; (try dsimp only at hSw); go_simp) <;> with_reducible rfl
            simp only [Act.put, List.getElem_toArray, List.getElem_cons_succ, List.getElem_cons_zero, List.setIfInBounds_toArray, List.set_cons_zero, List.set_cons_succ]
            refine wpAnyH_take (i := 5) (oi := _) (v := ?vs15b) rfl (by kernel_rfl) (by kernel_rfl) (by kernel_rfl) (fun _ _ _ h => by cases h.1) (Or.inl ⟨by rfl, ?hys15b⟩) (by assumption) ?rests15b
            case hys15b => (intro V hSw; (try dsimp only at hSw); go_simp) <;> with_reducible rfl
            simp only [Act.put, List.getElem_toArray, List.getElem_cons_succ, List.getElem_cons_zero, List.setIfInBounds_toArray, List.set_cons_zero, List.set_cons_succ]
            refine wpAnyH_take (i := 6) (oi := _) (v := ?vs16b) rfl (by kernel_rfl) (by kernel_rfl) (by kernel_rfl) (fun _ _ _ h => by cases h.1) (Or.inl ⟨by rfl, ?hys16b⟩) (by assumption) ?rests16b
            case hys16b => (intro V hSw; (try dsimp only at hSw); go_simp) <;> with_reducible rfl
            simp only [Act.put, List.getElem_toArray, List.getElem_cons_succ, List.getElem_cons_zero, List.setIfInBounds_toArray, List.set_cons_zero, List.set_cons_succ]
            refine wpAnyH_take (i := 7) (oi := _) (v := ?vs17b) rfl (by kernel_rfl) (by kernel_rfl) (by kernel_rfl) (fun _ _ _ h => by cases h.1) (Or.inl ⟨by rfl, ?hys17b⟩) (by assumption) ?rests17b
            case hys17b => (intro V hSw; (try dsimp only at hSw); go_simp) <;> with_reducible rfl
            simp only [Act.put, List.getElem_toArray, List.getElem_cons_succ, List.getElem_cons_zero, List.setIfInBounds_toArray, List.set_cons_zero, List.set_cons_succ]
            refine wpAnyH_take (i := 9) (oi := _) (v := ?vs19b) rfl (by kernel_rfl) (by kernel_rfl) (by kernel_rfl) (fun _ _ _ h => by cases h.1) (Or.inl ⟨by rfl, ?hys19b⟩) (by assumption) ?rests19b
            case hys19b => (intro V hSw; (try dsimp only at hSw); go_simp) <;> with_reducible rfl
            simp only [Act.put, List.getElem_toArray, List.getElem_cons_succ, List.getElem_cons_zero, List.setIfInBounds_toArray, List.set_cons_zero, List.set_cons_succ]
            refine wpAnyH_take (i := 10) (oi := _) (v := ?vs110b) rfl (by kernel_rfl) (by kernel_rfl) (by kernel_rfl) (fun _ _ _ h => by cases h.1) (Or.inl ⟨by rfl, ?hys110b⟩) (by assumption) ?rests110b
            case hys110b => (intro V hSw; (try dsimp only at hSw); go_simp) <;> with_reducible rfl
            simp only [Act.put, List.getElem_toArray, List.getElem_cons_succ, List.getElem_cons_zero, List.setIfInBounds_toArray, List.set_cons_zero, List.set_cons_succ]
            refine wpAnyH_take (i := 11) (oi := _) (v := ?vs111b) rfl (by kernel_rfl) (by kernel_rfl) (by kernel_rfl) (fun _ _ _ h => by cases h.1) (Or.inl ⟨by rfl, ?hys111b⟩) (by assumption) ?rests111b
            case hys111b => (intro V hSw; (try dsimp only at hSw); go_simp) <;> with_reducible rfl
            simp only [Act.put, List.getElem_toArray, List.getElem_cons_succ, List.getElem_cons_zero, List.setIfInBounds_toArray, List.set_cons_zero, List.set_cons_succ]
            refine wpAnyH_ready (rs := [8]) (by kernel_rfl) (by simp) ?_
            refine AllReadyH.cons (o := _) rfl (fun K9 hK => ?_) AllReadyH.nil
            go_simp
            refine HT.out.1.mono ?_
            rintro e w8 ⟨At, ct, zt, rfl, hrt, hst, k8⟩
            rw [HT.out.2.1] at hrt hst
            rw [HT.out.2.1, HT.out.2.2.1]
            have hlt := hrt.ls
            rw [hst] at hlt
            have kk8 : Kept (fun _ => False) W w8 := (Kept.refl (fun _ => False) W).drew.next (Kept.of_grown (F := fun _ => False) k8 fun _ e => by cases e) (fun _ _ h => h)
            have H8 := Lib.hid (And.intro hlt kk8)
            clear hrt hst hlt k8
            go_wp2_with fail
            refine hK.out _ _ (SH.out w8 (kk8.mono (fun _ _ h => h.elim))) (fun hHeld => ?_)
            clear hK K9
            try simp only [Act.put, List.setIfInBounds_toArray, List.set_cons_zero, List.set_cons_succ]
            refine wpAnyH_ready (rs := [12]) (by kernel_rfl) (by simp) ?_
            refine AllReadyH.cons (o := _) rfl (fun K9 hK => ?_) AllReadyH.nil
            go_simp
            refine (samelists_is w8 At (some ⟨gu, 0, none⟩) ct _ (m - K.toNat) (L.drop k) HT.out.2.2.1 (by omega) H8.out.1 (HAX.out w8 H8.out.2)).mono ?_
            rintro e w9 ⟨rfl, k9⟩
            have kk9 := H8.out.2.next (Kept.of_grown (F := fun _ => False) k9 fun _ e => by cases e) (fun _ _ h => h)
            have c9 := (HB1.out w9 kk9).1
            have f9 := (HB1.out w9 kk9).2
            have H9 := Lib.hid kk9
            clear k9
            go_wp2_with fail
            refine hK.out _ _ (SH.out w9 (kk9.mono (fun _ _ h => h.elim))) (fun hHeld => ?_)
            clear hK K9
            try simp only [Act.put, List.setIfInBounds_toArray, List.set_cons_zero, List.set_cons_succ]
            refine wpAnyH_take (i := 13) (oi := _) (v := ?vs113b) rfl (by kernel_rfl) (by kernel_rfl) (by kernel_rfl) (fun _ _ _ h => by cases h.1) (Or.inl ⟨by rfl, ?hys113b⟩) (by assumption) ?rests113b
            case hys113b => (intro V hSw; (try dsimp only at hSw); go_simp) <;> with_reducible rfl
            simp only [Act.put, List.getElem_toArray, List.getElem_cons_succ, List.getElem_cons_zero, List.setIfInBounds_toArray, List.set_cons_zero, List.set_cons_succ]
            refine wpAnyH_ready (rs := [14]) (by kernel_rfl) (by simp) ?_
            refine AllReadyH.cons (o := _) rfl (fun K9 hK => ?_) AllReadyH.nil
            go_simp
            have kk10 : Kept (fun j => j = w.heap.size + 1) W (w9.setCell ⟨w.heap.size + 1, 0, none⟩ (.bool true)) := (kk9.mono (G := fun j => j = w.heap.size + 1) (fun _ _ h => h.elim)).set (p := ⟨w.heap.size + 1, 0, none⟩) (.inl rfl) _
            refine hK.out _ _ (SH.out _ kk10) (fun hHeld => ?_)
            clear hK K9 hHeld
            refine wpAnyH_done (by kernel_rfl) ?_ _
            exact FIN.out w9 kk9 _ rfl rfl
          · refine wpIn_region_held_wide (S := fun V => V.cell? ⟨w5.heap.size + 1, 0, none⟩ = some (.int .i64 K) ∧ V.cell? ⟨w.heap.size, 0, none⟩ = some (.int .i64 q1) ∧ V.cell? ⟨w5.heap.size, 0, none⟩ = some (.slice (some ⟨gu, 0, none⟩) m cu) ∧ V.cell? ⟨p + 1, 0, none⟩ = some (.pointer (some ⟨p, 0, none⟩))) (by kernel_rfl) (by kernel_rfl) (by rintro ⟨_, _, h, _⟩; cases h) (SH.out W.drew (Kept.refl _ W).drew) (fun hHeld => ?_)
            refine wpAnyH_take (i := 0) (oi := _) (v := ?vs10c) rfl (by kernel_rfl) (by kernel_rfl) (by kernel_rfl) (fun _ _ _ h => by cases h.1) (Or.inl ⟨by rfl, ?hys10c⟩) (by assumption) ?rests10c
            case hys10c => (intro V hSw; (try dsimp only at hSw); go_simp) <;> with_reducible rfl
            simp only [Act.put, List.getElem_toArray, List.getElem_cons_zero, List.setIfInBounds_toArray, List.set_cons_zero, List.set_cons_succ]
            refine wpAnyH_take (i := 1) (oi := _) (v := ?vs11c) rfl (by kernel_rfl) (by kernel_rfl) (by kernel_rfl) (fun _ _ _ h => by cases h.1) (Or.inl ⟨by rfl, ?hys11c⟩) (by assumption) ?rests11c
            case hys11c => (intro V hSw; (try dsimp only at hSw); go_simp) <;> with_reducible rfl
            simp only [Act.put, List.getElem_toArray, List.getElem_cons_succ, List.getElem_cons_zero, List.setIfInBounds_toArray, List.set_cons_zero, List.set_cons_succ]
            refine wpAnyH_take (i := 2) (oi := _) (v := ?vs12c) rfl (by kernel_rfl) (by kernel_rfl) (by kernel_rfl) (fun _ _ _ h => by cases h.1) (Or.inl ⟨by rfl, ?hys12c⟩) (by assumption) ?rests12c
            case hys12c => (intro V hSw; (try dsimp only at hSw); go_simp) <;> with_reducible rfl
            simp only [Act.put, List.getElem_toArray, List.getElem_cons_succ, List.getElem_cons_zero, List.setIfInBounds_toArray, List.set_cons_zero, List.set_cons_succ]
            refine wpAnyH_take (i := 3) (oi := _) (v := ?vs13c) rfl (by kernel_rfl) (by kernel_rfl) (by kernel_rfl) (fun _ _ _ h => by cases h.1) (Or.inl ⟨by rfl, ?hys13c⟩) (by assumption) ?rests13c
            case hys13c => (intro V hSw; (try dsimp only at hSw); go_simp) <;> with_reducible rfl
            simp only [Act.put, List.getElem_toArray, List.getElem_cons_succ, List.getElem_cons_zero, List.setIfInBounds_toArray, List.set_cons_zero, List.set_cons_succ]
            refine wpAnyH_take (i := 4) (oi := _) (v := ?vs14c) rfl (by kernel_rfl) (by kernel_rfl) (by kernel_rfl) (fun _ _ _ h => by cases h.1) (Or.inl ⟨by rfl, ?hys14c⟩) (by assumption) ?rests14c
            case hys14c => (intro V hSw; (try dsimp only at hSw); go_simp) <;> with_reducible rfl
            simp only [Act.put, List.getElem_toArray, List.getElem_cons_succ, List.getElem_cons_zero, List.setIfInBounds_toArray, List.set_cons_zero, List.set_cons_succ]
            refine wpAnyH_take (i := 5) (oi := _) (v := ?vs15c) rfl (by kernel_rfl) (by kernel_rfl) (by kernel_rfl) (fun _ _ _ h => by cases h.1) (Or.inl ⟨by rfl, ?hys15c⟩) (by assumption) ?rests15c
            case hys15c => (intro V hSw; (try dsimp only at hSw); go_simp) <;> with_reducible rfl
            simp only [Act.put, List.getElem_toArray, List.getElem_cons_succ, List.getElem_cons_zero, List.setIfInBounds_toArray, List.set_cons_zero, List.set_cons_succ]
            refine wpAnyH_take (i := 6) (oi := _) (v := ?vs16c) rfl (by kernel_rfl) (by kernel_rfl) (by kernel_rfl) (fun _ _ _ h => by cases h.1) (Or.inl ⟨by rfl, ?hys16c⟩) (by assumption) ?rests16c
            case hys16c => (intro V hSw; (try dsimp only at hSw); go_simp) <;> with_reducible rfl
            simp only [Act.put, List.getElem_toArray, List.getElem_cons_succ, List.getElem_cons_zero, List.setIfInBounds_toArray, List.set_cons_zero, List.set_cons_succ]
            refine wpAnyH_take (i := 7) (oi := _) (v := ?vs17c) rfl (by kernel_rfl) (by kernel_rfl) (by kernel_rfl) (fun _ _ _ h => by cases h.1) (Or.inl ⟨by rfl, ?hys17c⟩) (by assumption) ?rests17c
            case hys17c => (intro V hSw; (try dsimp only at hSw); go_simp) <;> with_reducible rfl
            simp only [Act.put, List.getElem_toArray, List.getElem_cons_succ, List.getElem_cons_zero, List.setIfInBounds_toArray, List.set_cons_zero, List.set_cons_succ]
            refine wpAnyH_take (i := 9) (oi := _) (v := ?vs19c) rfl (by kernel_rfl) (by kernel_rfl) (by kernel_rfl) (fun _ _ _ h => by cases h.1) (Or.inl ⟨by rfl, ?hys19c⟩) (by assumption) ?rests19c
            case hys19c => (intro V hSw; (try dsimp only at hSw); go_simp) <;> with_reducible rfl
            simp only [Act.put, List.getElem_toArray, List.getElem_cons_succ, List.getElem_cons_zero, List.setIfInBounds_toArray, List.set_cons_zero, List.set_cons_succ]
            refine wpAnyH_take (i := 10) (oi := _) (v := ?vs110c) rfl (by kernel_rfl) (by kernel_rfl) (by kernel_rfl) (fun _ _ _ h => by cases h.1) (Or.inl ⟨by rfl, ?hys110c⟩) (by assumption) ?rests110c
            case hys110c => (intro V hSw; (try dsimp only at hSw); go_simp) <;> with_reducible rfl
            simp only [Act.put, List.getElem_toArray, List.getElem_cons_succ, List.getElem_cons_zero, List.setIfInBounds_toArray, List.set_cons_zero, List.set_cons_succ]
            refine wpAnyH_take (i := 11) (oi := _) (v := ?vs111c) rfl (by kernel_rfl) (by kernel_rfl) (by kernel_rfl) (fun _ _ _ h => by cases h.1) (Or.inl ⟨by rfl, ?hys111c⟩) (by assumption) ?rests111c
            case hys111c => (intro V hSw; (try dsimp only at hSw); go_simp) <;> with_reducible rfl
            simp only [Act.put, List.getElem_toArray, List.getElem_cons_succ, List.getElem_cons_zero, List.setIfInBounds_toArray, List.set_cons_zero, List.set_cons_succ]
            refine wpAnyH_ready (rs := [8]) (by kernel_rfl) (by simp) ?_
            refine AllReadyH.cons (o := _) rfl (fun K9 hK => ?_) AllReadyH.nil
            go_simp
            refine HT.out.1.mono ?_
            rintro e w8 ⟨At, ct, zt, rfl, hrt, hst, k8⟩
            rw [HT.out.2.1] at hrt hst
            rw [HT.out.2.1, HT.out.2.2.1]
            have hlt := hrt.ls
            rw [hst] at hlt
            have kk8 : Kept (fun _ => False) W w8 := (Kept.refl (fun _ => False) W).drew.next (Kept.of_grown (F := fun _ => False) k8 fun _ e => by cases e) (fun _ _ h => h)
            have H8 := Lib.hid (And.intro hlt kk8)
            clear hrt hst hlt k8
            go_wp2_with fail
            refine hK.out _ _ (SH.out w8 (kk8.mono (fun _ _ h => h.elim))) (fun hHeld => ?_)
            clear hK K9
            try simp only [Act.put, List.setIfInBounds_toArray, List.set_cons_zero, List.set_cons_succ]
            refine wpAnyH_ready (rs := [12]) (by kernel_rfl) (by simp) ?_
            refine AllReadyH.cons (o := _) rfl (fun K9 hK => ?_) AllReadyH.nil
            go_simp
            refine (samelists_is w8 At (some ⟨gu, K.toNat, none⟩) ct _ (m - K.toNat) (L.drop k) HT.out.2.2.1 (by omega) H8.out.1 (HAX.out w8 H8.out.2)).mono ?_
            rintro e w9 ⟨rfl, k9⟩
            have kk9 := H8.out.2.next (Kept.of_grown (F := fun _ => False) k9 fun _ e => by cases e) (fun _ _ h => h)
            have c9 := (HB1.out w9 kk9).1
            have f9 := (HB1.out w9 kk9).2
            have H9 := Lib.hid kk9
            clear k9
            go_wp2_with fail
            refine hK.out _ _ (SH.out w9 (kk9.mono (fun _ _ h => h.elim))) (fun hHeld => ?_)
            clear hK K9
            try simp only [Act.put, List.setIfInBounds_toArray, List.set_cons_zero, List.set_cons_succ]
            refine wpAnyH_take (i := 13) (oi := _) (v := ?vs113c) rfl (by kernel_rfl) (by kernel_rfl) (by kernel_rfl) (fun _ _ _ h => by cases h.1) (Or.inl ⟨by rfl, ?hys113c⟩) (by assumption) ?rests113c
            case hys113c => (intro V hSw; (try dsimp only at hSw); go_simp) <;> with_reducible rfl
            simp only [Act.put, List.getElem_toArray, List.getElem_cons_succ, List.getElem_cons_zero, List.setIfInBounds_toArray, List.set_cons_zero, List.set_cons_succ]
            refine wpAnyH_ready (rs := [14]) (by kernel_rfl) (by simp) ?_
            refine AllReadyH.cons (o := _) rfl (fun K9 hK => ?_) AllReadyH.nil
            go_simp
            have kk10 : Kept (fun j => j = w.heap.size + 1) W (w9.setCell ⟨w.heap.size + 1, 0, none⟩ (.bool true)) := (kk9.mono (G := fun j => j = w.heap.size + 1) (fun _ _ h => h.elim)).set (p := ⟨w.heap.size + 1, 0, none⟩) (.inl rfl) _
            refine hK.out _ _ (SH.out _ kk10) (fun hHeld => ?_)
            clear hK K9 hHeld
            refine wpAnyH_done (by kernel_rfl) ?_ _
            exact FIN.out w9 kk9 _ rfl rfl
        · have dA : ((m : Int) < q1) = True := eq_true (by omega)
          have dB : (K = (m : Int)) = True := eq_true (eq_of_beq dk)
          have dC : m = 0 → ((0 : Int) < q1) = True := fun h => by rw [← dA, h]; rfl
          have dD : m = 0 → (K = 0) = True := fun h => by rw [← dB, h]; rfl
          rcases hcase with ⟨rfl, rfl, hm0, hc0⟩ | ⟨gu, rfl, hmc, ⟨hcu, rfl⟩ | ⟨hcu, rfl⟩⟩
          · have hK00 : K = 0 := by have := eq_of_beq dk; omega
            subst hK00
            subst hm0
            subst hc0
            clear dA dB dC dD
            have dA : ((0 : Int) < q1) = True := eq_true (by omega)
            refine wpIn_region_held_wide (S := fun V => V.cell? ⟨w5.heap.size + 1, 0, none⟩ = some (.int .i64 0) ∧ V.cell? ⟨w.heap.size, 0, none⟩ = some (.int .i64 q1) ∧ V.cell? ⟨w5.heap.size, 0, none⟩ = some (.slice none 0 0) ∧ V.cell? ⟨p + 1, 0, none⟩ = some (.pointer (some ⟨p, 0, none⟩))) (by kernel_rfl) (by kernel_rfl) (by rintro ⟨_, _, h, _⟩; cases h) (SH.out W.drew (Kept.refl _ W).drew) (fun hHeld => ?_)
            refine wpAnyH_take (i := 0) (oi := _) (v := ?vs20a) rfl (by kernel_rfl) (by kernel_rfl) (by kernel_rfl) (fun _ _ _ h => by cases h.1) (Or.inl ⟨by rfl, ?hys20a⟩) (by assumption) ?rests20a
            case hys20a => (intro V hSw; (try dsimp only at hSw); go_simp) <;> with_reducible rfl
            simp only [Act.put, List.getElem_toArray, List.getElem_cons_zero, List.setIfInBounds_toArray, List.set_cons_zero, List.set_cons_succ]
            refine wpAnyH_take (i := 1) (oi := _) (v := ?vs21a) rfl (by kernel_rfl) (by kernel_rfl) (by kernel_rfl) (fun _ _ _ h => by cases h.1) (Or.inl ⟨by rfl, ?hys21a⟩) (by assumption) ?rests21a
            case hys21a => (intro V hSw; (try dsimp only at hSw); go_simp) <;> with_reducible rfl
            simp only [Act.put, List.getElem_toArray, List.getElem_cons_succ, List.getElem_cons_zero, List.setIfInBounds_toArray, List.set_cons_zero, List.set_cons_succ]
            refine wpAnyH_take (i := 2) (oi := _) (v := ?vs22a) rfl (by kernel_rfl) (by kernel_rfl) (by kernel_rfl) (fun _ _ _ h => by cases h.1) (Or.inl ⟨by rfl, ?hys22a⟩) (by assumption) ?rests22a
            case hys22a => (intro V hSw; (try dsimp only at hSw); go_simp) <;> with_reducible rfl
            simp only [Act.put, List.getElem_toArray, List.getElem_cons_succ, List.getElem_cons_zero, List.setIfInBounds_toArray, List.set_cons_zero, List.set_cons_succ]
            refine wpAnyH_take (i := 3) (oi := _) (v := ?vs23a) rfl (by kernel_rfl) (by kernel_rfl) (by kernel_rfl) (fun _ _ _ h => by cases h.1) (Or.inl ⟨by rfl, ?hys23a⟩) (by assumption) ?rests23a
            case hys23a => (intro V hSw; (try dsimp only at hSw); go_simp) <;> with_reducible rfl
            simp only [Act.put, List.getElem_toArray, List.getElem_cons_succ, List.getElem_cons_zero, List.setIfInBounds_toArray, List.set_cons_zero, List.set_cons_succ]
            refine wpAnyH_take (i := 4) (oi := _) (v := ?vs24a) rfl (by kernel_rfl) (by kernel_rfl) (by kernel_rfl) (fun _ _ _ h => by cases h.1) (Or.inl ⟨by rfl, ?hys24a⟩) (by assumption) ?rests24a
            case hys24a => (intro V hSw; (try dsimp only at hSw); go_simp) <;> with_reducible rfl
            simp only [Act.put, List.getElem_toArray, List.getElem_cons_succ, List.getElem_cons_zero, List.setIfInBounds_toArray, List.set_cons_zero, List.set_cons_succ]
            refine wpAnyH_take (i := 5) (oi := _) (v := ?vs25a) rfl (by kernel_rfl) (by kernel_rfl) (by kernel_rfl) (fun _ _ _ h => by cases h.1) (Or.inl ⟨by rfl, ?hys25a⟩) (by assumption) ?rests25a
            case hys25a => (intro V hSw; (try dsimp only at hSw); go_simp) <;> with_reducible rfl
            simp only [Act.put, List.getElem_toArray, List.getElem_cons_succ, List.getElem_cons_zero, List.setIfInBounds_toArray, List.set_cons_zero, List.set_cons_succ]
            refine wpAnyH_take (i := 6) (oi := _) (v := ?vs26a) rfl (by kernel_rfl) (by kernel_rfl) (by kernel_rfl) (fun _ _ _ h => by cases h.1) (Or.inl ⟨by rfl, ?hys26a⟩) (by assumption) ?rests26a
            case hys26a => (intro V hSw; (try dsimp only at hSw); go_simp) <;> with_reducible rfl
            simp only [Act.put, List.getElem_toArray, List.getElem_cons_succ, List.getElem_cons_zero, List.setIfInBounds_toArray, List.set_cons_zero, List.set_cons_succ]
            refine wpAnyH_take (i := 7) (oi := _) (v := ?vs27a) rfl (by kernel_rfl) (by kernel_rfl) (by kernel_rfl) (fun _ _ _ h => by cases h.1) (Or.inl ⟨by rfl, ?hys27a⟩) (by assumption) ?rests27a
            case hys27a => (intro V hSw; (try dsimp only at hSw); go_simp) <;> with_reducible rfl
            simp only [Act.put, List.getElem_toArray, List.getElem_cons_succ, List.getElem_cons_zero, List.setIfInBounds_toArray, List.set_cons_zero, List.set_cons_succ]
            refine wpAnyH_take (i := 9) (oi := _) (v := ?vs29a) rfl (by kernel_rfl) (by kernel_rfl) (by kernel_rfl) (fun _ _ _ h => by cases h.1) (Or.inl ⟨by rfl, ?hys29a⟩) (by assumption) ?rests29a
            case hys29a => (intro V hSw; (try dsimp only at hSw); go_simp) <;> with_reducible rfl
            simp only [Act.put, List.getElem_toArray, List.getElem_cons_succ, List.getElem_cons_zero, List.setIfInBounds_toArray, List.set_cons_zero, List.set_cons_succ]
            refine wpAnyH_take (i := 10) (oi := _) (v := ?vs210a) rfl (by kernel_rfl) (by kernel_rfl) (by kernel_rfl) (fun _ _ _ h => by cases h.1) (Or.inl ⟨by rfl, ?hys210a⟩) (by assumption) ?rests210a
            case hys210a => (intro V hSw; (try dsimp only at hSw); go_simp) <;> with_reducible rfl
            simp only [Act.put, List.getElem_toArray, List.getElem_cons_succ, List.getElem_cons_zero, List.setIfInBounds_toArray, List.set_cons_zero, List.set_cons_succ]
            refine wpAnyH_take (i := 11) (oi := _) (v := ?vs211a) rfl (by kernel_rfl) (by kernel_rfl) (by kernel_rfl) (fun _ _ _ h => by cases h.1) (Or.inl ⟨by rfl, ?hys211a⟩) (by assumption) ?rests211a
            case hys211a => (intro V hSw; (try dsimp only at hSw); go_simp) <;> with_reducible rfl
            simp only [Act.put, List.getElem_toArray, List.getElem_cons_succ, List.getElem_cons_zero, List.setIfInBounds_toArray, List.set_cons_zero, List.set_cons_succ]
            refine wpAnyH_ready (rs := [8]) (by kernel_rfl) (by simp) ?_
            refine AllReadyH.cons (o := _) rfl (fun K9 hK => ?_) AllReadyH.nil
            go_simp
            refine HT.out.1.mono ?_
            rintro e w8 ⟨At, ct, zt, rfl, hrt, hst, k8⟩
            rw [HT.out.2.1] at hrt hst
            rw [HT.out.2.1, HT.out.2.2.1]
            have hlt := hrt.ls
            rw [hst] at hlt
            have kk8 : Kept (fun _ => False) W w8 := (Kept.refl (fun _ => False) W).drew.next (Kept.of_grown (F := fun _ => False) k8 fun _ e => by cases e) (fun _ _ h => h)
            have H8 := Lib.hid (And.intro hlt kk8)
            clear hrt hst hlt k8
            go_wp2_with fail
            refine hK.out _ _ (SH.out w8 (kk8.mono (fun _ _ h => h.elim))) (fun hHeld => ?_)
            clear hK K9
            try simp only [Act.put, List.setIfInBounds_toArray, List.set_cons_zero, List.set_cons_succ]
            refine wpAnyH_ready (rs := [12]) (by kernel_rfl) (by simp) ?_
            refine AllReadyH.cons (o := _) rfl (fun K9 hK => ?_) AllReadyH.nil
            go_simp
            refine (samelists_is w8 At none ct _ (0 - (0 : Int).toNat) (L.drop k) HT.out.2.2.1 (by omega) H8.out.1 (HAX.out w8 H8.out.2)).mono ?_
            rintro e w9 ⟨rfl, k9⟩
            have kk9 := H8.out.2.next (Kept.of_grown (F := fun _ => False) k9 fun _ e => by cases e) (fun _ _ h => h)
            have c9 := (HB1.out w9 kk9).1
            have f9 := (HB1.out w9 kk9).2
            have H9 := Lib.hid kk9
            clear k9
            go_wp2_with fail
            refine hK.out _ _ (SH.out w9 (kk9.mono (fun _ _ h => h.elim))) (fun hHeld => ?_)
            clear hK K9
            try simp only [Act.put, List.setIfInBounds_toArray, List.set_cons_zero, List.set_cons_succ]
            refine wpAnyH_take (i := 13) (oi := _) (v := ?vs213a) rfl (by kernel_rfl) (by kernel_rfl) (by kernel_rfl) (fun _ _ _ h => by cases h.1) (Or.inl ⟨by rfl, ?hys213a⟩) (by assumption) ?rests213a
            case hys213a => (intro V hSw; (try dsimp only at hSw); go_simp) <;> with_reducible rfl
            simp only [Act.put, List.getElem_toArray, List.getElem_cons_succ, List.getElem_cons_zero, List.setIfInBounds_toArray, List.set_cons_zero, List.set_cons_succ]
            refine wpAnyH_ready (rs := [14]) (by kernel_rfl) (by simp) ?_
            refine AllReadyH.cons (o := _) rfl (fun K9 hK => ?_) AllReadyH.nil
            go_simp
            have kk10 : Kept (fun j => j = w.heap.size + 1) W (w9.setCell ⟨w.heap.size + 1, 0, none⟩ (.bool true)) := (kk9.mono (G := fun j => j = w.heap.size + 1) (fun _ _ h => h.elim)).set (p := ⟨w.heap.size + 1, 0, none⟩) (.inl rfl) _
            refine hK.out _ _ (SH.out _ kk10) (fun hHeld => ?_)
            clear hK K9 hHeld
            refine wpAnyH_done (by kernel_rfl) ?_ _
            exact FIN.out w9 kk9 _ rfl rfl
          · refine wpIn_region_held_wide (S := fun V => V.cell? ⟨w5.heap.size + 1, 0, none⟩ = some (.int .i64 K) ∧ V.cell? ⟨w.heap.size, 0, none⟩ = some (.int .i64 q1) ∧ V.cell? ⟨w5.heap.size, 0, none⟩ = some (.slice (some ⟨gu, 0, none⟩) m cu) ∧ V.cell? ⟨p + 1, 0, none⟩ = some (.pointer (some ⟨p, 0, none⟩))) (by kernel_rfl) (by kernel_rfl) (by rintro ⟨_, _, h, _⟩; cases h) (SH.out W.drew (Kept.refl _ W).drew) (fun hHeld => ?_)
            refine wpAnyH_take (i := 0) (oi := _) (v := ?vs20b) rfl (by kernel_rfl) (by kernel_rfl) (by kernel_rfl) (fun _ _ _ h => by cases h.1) (Or.inl ⟨by rfl, ?hys20b⟩) (by assumption) ?rests20b
            case hys20b => (intro V hSw; (try dsimp only at hSw); go_simp) <;> with_reducible rfl
            simp only [Act.put, List.getElem_toArray, List.getElem_cons_zero, List.setIfInBounds_toArray, List.set_cons_zero, List.set_cons_succ]
            refine wpAnyH_take (i := 1) (oi := _) (v := ?vs21b) rfl (by kernel_rfl) (by kernel_rfl) (by kernel_rfl) (fun _ _ _ h => by cases h.1) (Or.inl ⟨by rfl, ?hys21b⟩) (by assumption) ?rests21b
            case hys21b => (intro V hSw; (try dsimp only at hSw); go_simp) <;> with_reducible rfl
            simp only [Act.put, List.getElem_toArray, List.getElem_cons_succ, List.getElem_cons_zero, List.setIfInBounds_toArray, List.set_cons_zero, List.set_cons_succ]
            refine wpAnyH_take (i := 2) (oi := _) (v := ?vs22b) rfl (by kernel_rfl) (by kernel_rfl) (by kernel_rfl) (fun _ _ _ h => by cases h.1) (Or.inl ⟨by rfl, ?hys22b⟩) (by assumption) ?rests22b
            case hys22b => (intro V hSw; (try dsimp only at hSw); go_simp) <;> with_reducible rfl
            simp only [Act.put, List.getElem_toArray, List.getElem_cons_succ, List.getElem_cons_zero, List.setIfInBounds_toArray, List.set_cons_zero, List.set_cons_succ]
            refine wpAnyH_take (i := 3) (oi := _) (v := ?vs23b) rfl (by kernel_rfl) (by kernel_rfl) (by kernel_rfl) (fun _ _ _ h => by cases h.1) (Or.inl ⟨by rfl, ?hys23b⟩) (by assumption) ?rests23b
            case hys23b => (intro V hSw; (try dsimp only at hSw); go_simp) <;> with_reducible rfl
            simp only [Act.put, List.getElem_toArray, List.getElem_cons_succ, List.getElem_cons_zero, List.setIfInBounds_toArray, List.set_cons_zero, List.set_cons_succ]
            refine wpAnyH_take (i := 4) (oi := _) (v := ?vs24b) rfl (by kernel_rfl) (by kernel_rfl) (by kernel_rfl) (fun _ _ _ h => by cases h.1) (Or.inl ⟨by rfl, ?hys24b⟩) (by assumption) ?rests24b
            case hys24b => (intro V hSw; (try dsimp only at hSw); go_simp) <;> with_reducible rfl
            simp only [Act.put, List.getElem_toArray, List.getElem_cons_succ, List.getElem_cons_zero, List.setIfInBounds_toArray, List.set_cons_zero, List.set_cons_succ]
            refine wpAnyH_take (i := 5) (oi := _) (v := ?vs25b) rfl (by kernel_rfl) (by kernel_rfl) (by kernel_rfl) (fun _ _ _ h => by cases h.1) (Or.inl ⟨by rfl, ?hys25b⟩) (by assumption) ?rests25b
            case hys25b => (intro V hSw; (try dsimp only at hSw); go_simp) <;> with_reducible rfl
            simp only [Act.put, List.getElem_toArray, List.getElem_cons_succ, List.getElem_cons_zero, List.setIfInBounds_toArray, List.set_cons_zero, List.set_cons_succ]
            refine wpAnyH_take (i := 6) (oi := _) (v := ?vs26b) rfl (by kernel_rfl) (by kernel_rfl) (by kernel_rfl) (fun _ _ _ h => by cases h.1) (Or.inl ⟨by rfl, ?hys26b⟩) (by assumption) ?rests26b
            case hys26b => (intro V hSw; (try dsimp only at hSw); go_simp) <;> with_reducible rfl
            simp only [Act.put, List.getElem_toArray, List.getElem_cons_succ, List.getElem_cons_zero, List.setIfInBounds_toArray, List.set_cons_zero, List.set_cons_succ]
            refine wpAnyH_take (i := 7) (oi := _) (v := ?vs27b) rfl (by kernel_rfl) (by kernel_rfl) (by kernel_rfl) (fun _ _ _ h => by cases h.1) (Or.inl ⟨by rfl, ?hys27b⟩) (by assumption) ?rests27b
            case hys27b => (intro V hSw; (try dsimp only at hSw); go_simp) <;> with_reducible rfl
            simp only [Act.put, List.getElem_toArray, List.getElem_cons_succ, List.getElem_cons_zero, List.setIfInBounds_toArray, List.set_cons_zero, List.set_cons_succ]
            refine wpAnyH_take (i := 9) (oi := _) (v := ?vs29b) rfl (by kernel_rfl) (by kernel_rfl) (by kernel_rfl) (fun _ _ _ h => by cases h.1) (Or.inl ⟨by rfl, ?hys29b⟩) (by assumption) ?rests29b
            case hys29b => (intro V hSw; (try dsimp only at hSw); go_simp) <;> with_reducible rfl
            simp only [Act.put, List.getElem_toArray, List.getElem_cons_succ, List.getElem_cons_zero, List.setIfInBounds_toArray, List.set_cons_zero, List.set_cons_succ]
            refine wpAnyH_take (i := 10) (oi := _) (v := ?vs210b) rfl (by kernel_rfl) (by kernel_rfl) (by kernel_rfl) (fun _ _ _ h => by cases h.1) (Or.inl ⟨by rfl, ?hys210b⟩) (by assumption) ?rests210b
            case hys210b => (intro V hSw; (try dsimp only at hSw); go_simp) <;> with_reducible rfl
            simp only [Act.put, List.getElem_toArray, List.getElem_cons_succ, List.getElem_cons_zero, List.setIfInBounds_toArray, List.set_cons_zero, List.set_cons_succ]
            refine wpAnyH_take (i := 11) (oi := _) (v := ?vs211b) rfl (by kernel_rfl) (by kernel_rfl) (by kernel_rfl) (fun _ _ _ h => by cases h.1) (Or.inl ⟨by rfl, ?hys211b⟩) (by assumption) ?rests211b
            case hys211b => (intro V hSw; (try dsimp only at hSw); go_simp) <;> with_reducible rfl
            simp only [Act.put, List.getElem_toArray, List.getElem_cons_succ, List.getElem_cons_zero, List.setIfInBounds_toArray, List.set_cons_zero, List.set_cons_succ]
            refine wpAnyH_ready (rs := [8]) (by kernel_rfl) (by simp) ?_
            refine AllReadyH.cons (o := _) rfl (fun K9 hK => ?_) AllReadyH.nil
            go_simp
            refine HT.out.1.mono ?_
            rintro e w8 ⟨At, ct, zt, rfl, hrt, hst, k8⟩
            rw [HT.out.2.1] at hrt hst
            rw [HT.out.2.1, HT.out.2.2.1]
            have hlt := hrt.ls
            rw [hst] at hlt
            have kk8 : Kept (fun _ => False) W w8 := (Kept.refl (fun _ => False) W).drew.next (Kept.of_grown (F := fun _ => False) k8 fun _ e => by cases e) (fun _ _ h => h)
            have H8 := Lib.hid (And.intro hlt kk8)
            clear hrt hst hlt k8
            go_wp2_with fail
            refine hK.out _ _ (SH.out w8 (kk8.mono (fun _ _ h => h.elim))) (fun hHeld => ?_)
            clear hK K9
            try simp only [Act.put, List.setIfInBounds_toArray, List.set_cons_zero, List.set_cons_succ]
            refine wpAnyH_ready (rs := [12]) (by kernel_rfl) (by simp) ?_
            refine AllReadyH.cons (o := _) rfl (fun K9 hK => ?_) AllReadyH.nil
            go_simp
            refine (samelists_is w8 At (some ⟨gu, 0, none⟩) ct _ (m - K.toNat) (L.drop k) HT.out.2.2.1 (by omega) H8.out.1 (HAX.out w8 H8.out.2)).mono ?_
            rintro e w9 ⟨rfl, k9⟩
            have kk9 := H8.out.2.next (Kept.of_grown (F := fun _ => False) k9 fun _ e => by cases e) (fun _ _ h => h)
            have c9 := (HB1.out w9 kk9).1
            have f9 := (HB1.out w9 kk9).2
            have H9 := Lib.hid kk9
            clear k9
            go_wp2_with fail
            refine hK.out _ _ (SH.out w9 (kk9.mono (fun _ _ h => h.elim))) (fun hHeld => ?_)
            clear hK K9
            try simp only [Act.put, List.setIfInBounds_toArray, List.set_cons_zero, List.set_cons_succ]
            refine wpAnyH_take (i := 13) (oi := _) (v := ?vs213b) rfl (by kernel_rfl) (by kernel_rfl) (by kernel_rfl) (fun _ _ _ h => by cases h.1) (Or.inl ⟨by rfl, ?hys213b⟩) (by assumption) ?rests213b
            case hys213b => (intro V hSw; (try dsimp only at hSw); go_simp) <;> with_reducible rfl
            simp only [Act.put, List.getElem_toArray, List.getElem_cons_succ, List.getElem_cons_zero, List.setIfInBounds_toArray, List.set_cons_zero, List.set_cons_succ]
            refine wpAnyH_ready (rs := [14]) (by kernel_rfl) (by simp) ?_
            refine AllReadyH.cons (o := _) rfl (fun K9 hK => ?_) AllReadyH.nil
            go_simp
            have kk10 : Kept (fun j => j = w.heap.size + 1) W (w9.setCell ⟨w.heap.size + 1, 0, none⟩ (.bool true)) := (kk9.mono (G := fun j => j = w.heap.size + 1) (fun _ _ h => h.elim)).set (p := ⟨w.heap.size + 1, 0, none⟩) (.inl rfl) _
            refine hK.out _ _ (SH.out _ kk10) (fun hHeld => ?_)
            clear hK K9 hHeld
            refine wpAnyH_done (by kernel_rfl) ?_ _
            exact FIN.out w9 kk9 _ rfl rfl
          · refine wpIn_region_held_wide (S := fun V => V.cell? ⟨w5.heap.size + 1, 0, none⟩ = some (.int .i64 K) ∧ V.cell? ⟨w.heap.size, 0, none⟩ = some (.int .i64 q1) ∧ V.cell? ⟨w5.heap.size, 0, none⟩ = some (.slice (some ⟨gu, 0, none⟩) m cu) ∧ V.cell? ⟨p + 1, 0, none⟩ = some (.pointer (some ⟨p, 0, none⟩))) (by kernel_rfl) (by kernel_rfl) (by rintro ⟨_, _, h, _⟩; cases h) (SH.out W.drew (Kept.refl _ W).drew) (fun hHeld => ?_)
            refine wpAnyH_take (i := 0) (oi := _) (v := ?vs20c) rfl (by kernel_rfl) (by kernel_rfl) (by kernel_rfl) (fun _ _ _ h => by cases h.1) (Or.inl ⟨by rfl, ?hys20c⟩) (by assumption) ?rests20c
            case hys20c => (intro V hSw; (try dsimp only at hSw); go_simp) <;> with_reducible rfl
            simp only [Act.put, List.getElem_toArray, List.getElem_cons_zero, List.setIfInBounds_toArray, List.set_cons_zero, List.set_cons_succ]
            refine wpAnyH_take (i := 1) (oi := _) (v := ?vs21c) rfl (by kernel_rfl) (by kernel_rfl) (by kernel_rfl) (fun _ _ _ h => by cases h.1) (Or.inl ⟨by rfl, ?hys21c⟩) (by assumption) ?rests21c
            case hys21c => (intro V hSw; (try dsimp only at hSw); go_simp) <;> with_reducible rfl
            simp only [Act.put, List.getElem_toArray, List.getElem_cons_succ, List.getElem_cons_zero, List.setIfInBounds_toArray, List.set_cons_zero, List.set_cons_succ]
            refine wpAnyH_take (i := 2) (oi := _) (v := ?vs22c) rfl (by kernel_rfl) (by kernel_rfl) (by kernel_rfl) (fun _ _ _ h => by cases h.1) (Or.inl ⟨by rfl, ?hys22c⟩) (by assumption) ?rests22c
            case hys22c => (intro V hSw; (try dsimp only at hSw); go_simp) <;> with_reducible rfl
            simp only [Act.put, List.getElem_toArray, List.getElem_cons_succ, List.getElem_cons_zero, List.setIfInBounds_toArray, List.set_cons_zero, List.set_cons_succ]
            refine wpAnyH_take (i := 3) (oi := _) (v := ?vs23c) rfl (by kernel_rfl) (by kernel_rfl) (by kernel_rfl) (fun _ _ _ h => by cases h.1) (Or.inl ⟨by rfl, ?hys23c⟩) (by assumption) ?rests23c
            case hys23c => (intro V hSw; (try dsimp only at hSw); go_simp) <;> with_reducible rfl
            simp only [Act.put, List.getElem_toArray, List.getElem_cons_succ, List.getElem_cons_zero, List.setIfInBounds_toArray, List.set_cons_zero, List.set_cons_succ]
            refine wpAnyH_take (i := 4) (oi := _) (v := ?vs24c) rfl (by kernel_rfl) (by kernel_rfl) (by kernel_rfl) (fun _ _ _ h => by cases h.1) (Or.inl ⟨by rfl, ?hys24c⟩) (by assumption) ?rests24c
            case hys24c => (intro V hSw; (try dsimp only at hSw); go_simp) <;> with_reducible rfl
            simp only [Act.put, List.getElem_toArray, List.getElem_cons_succ, List.getElem_cons_zero, List.setIfInBounds_toArray, List.set_cons_zero, List.set_cons_succ]
            refine wpAnyH_take (i := 5) (oi := _) (v := ?vs25c) rfl (by kernel_rfl) (by kernel_rfl) (by kernel_rfl) (fun _ _ _ h => by cases h.1) (Or.inl ⟨by rfl, ?hys25c⟩) (by assumption) ?rests25c
            case hys25c => (intro V hSw; (try dsimp only at hSw); go_simp) <;> with_reducible rfl
            simp only [Act.put, List.getElem_toArray, List.getElem_cons_succ, List.getElem_cons_zero, List.setIfInBounds_toArray, List.set_cons_zero, List.set_cons_succ]
            refine wpAnyH_take (i := 6) (oi := _) (v := ?vs26c) rfl (by kernel_rfl) (by kernel_rfl) (by kernel_rfl) (fun _ _ _ h => by cases h.1) (Or.inl ⟨by rfl, ?hys26c⟩) (by assumption) ?rests26c
            case hys26c => (intro V hSw; (try dsimp only at hSw); go_simp) <;> with_reducible rfl
            simp only [Act.put, List.getElem_toArray, List.getElem_cons_succ, List.getElem_cons_zero, List.setIfInBounds_toArray, List.set_cons_zero, List.set_cons_succ]
            refine wpAnyH_take (i := 7) (oi := _) (v := ?vs27c) rfl (by kernel_rfl) (by kernel_rfl) (by kernel_rfl) (fun _ _ _ h => by cases h.1) (Or.inl ⟨by rfl, ?hys27c⟩) (by assumption) ?rests27c
            case hys27c => (intro V hSw; (try dsimp only at hSw); go_simp) <;> with_reducible rfl
            simp only [Act.put, List.getElem_toArray, List.getElem_cons_succ, List.getElem_cons_zero, List.setIfInBounds_toArray, List.set_cons_zero, List.set_cons_succ]
            refine wpAnyH_take (i := 9) (oi := _) (v := ?vs29c) rfl (by kernel_rfl) (by kernel_rfl) (by kernel_rfl) (fun _ _ _ h => by cases h.1) (Or.inl ⟨by rfl, ?hys29c⟩) (by assumption) ?rests29c
            case hys29c => (intro V hSw; (try dsimp only at hSw); go_simp) <;> with_reducible rfl
            simp only [Act.put, List.getElem_toArray, List.getElem_cons_succ, List.getElem_cons_zero, List.setIfInBounds_toArray, List.set_cons_zero, List.set_cons_succ]
            refine wpAnyH_take (i := 10) (oi := _) (v := ?vs210c) rfl (by kernel_rfl) (by kernel_rfl) (by kernel_rfl) (fun _ _ _ h => by cases h.1) (Or.inl ⟨by rfl, ?hys210c⟩) (by assumption) ?rests210c
            case hys210c => (intro V hSw; (try dsimp only at hSw); go_simp) <;> with_reducible rfl
            simp only [Act.put, List.getElem_toArray, List.getElem_cons_succ, List.getElem_cons_zero, List.setIfInBounds_toArray, List.set_cons_zero, List.set_cons_succ]
            refine wpAnyH_take (i := 11) (oi := _) (v := ?vs211c) rfl (by kernel_rfl) (by kernel_rfl) (by kernel_rfl) (fun _ _ _ h => by cases h.1) (Or.inl ⟨by rfl, ?hys211c⟩) (by assumption) ?rests211c
            case hys211c => (intro V hSw; (try dsimp only at hSw); go_simp) <;> with_reducible rfl
            simp only [Act.put, List.getElem_toArray, List.getElem_cons_succ, List.getElem_cons_zero, List.setIfInBounds_toArray, List.set_cons_zero, List.set_cons_succ]
            refine wpAnyH_ready (rs := [8]) (by kernel_rfl) (by simp) ?_
            refine AllReadyH.cons (o := _) rfl (fun K9 hK => ?_) AllReadyH.nil
            go_simp
            refine HT.out.1.mono ?_
            rintro e w8 ⟨At, ct, zt, rfl, hrt, hst, k8⟩
            rw [HT.out.2.1] at hrt hst
            rw [HT.out.2.1, HT.out.2.2.1]
            have hlt := hrt.ls
            rw [hst] at hlt
            have kk8 : Kept (fun _ => False) W w8 := (Kept.refl (fun _ => False) W).drew.next (Kept.of_grown (F := fun _ => False) k8 fun _ e => by cases e) (fun _ _ h => h)
            have H8 := Lib.hid (And.intro hlt kk8)
            clear hrt hst hlt k8
            go_wp2_with fail
            refine hK.out _ _ (SH.out w8 (kk8.mono (fun _ _ h => h.elim))) (fun hHeld => ?_)
            clear hK K9
            try simp only [Act.put, List.setIfInBounds_toArray, List.set_cons_zero, List.set_cons_succ]
            refine wpAnyH_ready (rs := [12]) (by kernel_rfl) (by simp) ?_
            refine AllReadyH.cons (o := _) rfl (fun K9 hK => ?_) AllReadyH.nil
            go_simp
            refine (samelists_is w8 At (some ⟨gu, K.toNat, none⟩) ct _ (m - K.toNat) (L.drop k) HT.out.2.2.1 (by omega) H8.out.1 (HAX.out w8 H8.out.2)).mono ?_
            rintro e w9 ⟨rfl, k9⟩
            have kk9 := H8.out.2.next (Kept.of_grown (F := fun _ => False) k9 fun _ e => by cases e) (fun _ _ h => h)
            have c9 := (HB1.out w9 kk9).1
            have f9 := (HB1.out w9 kk9).2
            have H9 := Lib.hid kk9
            clear k9
            go_wp2_with fail
            refine hK.out _ _ (SH.out w9 (kk9.mono (fun _ _ h => h.elim))) (fun hHeld => ?_)
            clear hK K9
            try simp only [Act.put, List.setIfInBounds_toArray, List.set_cons_zero, List.set_cons_succ]
            refine wpAnyH_take (i := 13) (oi := _) (v := ?vs213c) rfl (by kernel_rfl) (by kernel_rfl) (by kernel_rfl) (fun _ _ _ h => by cases h.1) (Or.inl ⟨by rfl, ?hys213c⟩) (by assumption) ?rests213c
            case hys213c => (intro V hSw; (try dsimp only at hSw); go_simp) <;> with_reducible rfl
            simp only [Act.put, List.getElem_toArray, List.getElem_cons_succ, List.getElem_cons_zero, List.setIfInBounds_toArray, List.set_cons_zero, List.set_cons_succ]
            refine wpAnyH_ready (rs := [14]) (by kernel_rfl) (by simp) ?_
            refine AllReadyH.cons (o := _) rfl (fun K9 hK => ?_) AllReadyH.nil
            go_simp
            have kk10 : Kept (fun j => j = w.heap.size + 1) W (w9.setCell ⟨w.heap.size + 1, 0, none⟩ (.bool true)) := (kk9.mono (G := fun j => j = w.heap.size + 1) (fun _ _ h => h.elim)).set (p := ⟨w.heap.size + 1, 0, none⟩) (.inl rfl) _
            refine hK.out _ _ (SH.out _ kk10) (fun hHeld => ?_)
            clear hK K9 hHeld
            refine wpAnyH_done (by kernel_rfl) ?_ _
            exact FIN.out w9 kk9 _ rfl rfl
end Go.Proofs.YtnhjokcjdjfijaaDoor
