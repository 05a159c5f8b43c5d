/-
  Several texts in one: CdU, CdBig.
-/
import Derived.Test.YtebnebajedlhlaaDoorCdSb
import Derived.Deep.DeepCutAuto
import Derived.Test.YtebnebajedlhlaaDoorM9iw
import Derived.Test.YtebnebajedlhlaaDoorM9iu
import Derived.Test.YtebnebajedlhlaaDoorM9iz
import Derived.Test.YtebnebajedlhlaaDoorM9iA
/-
  What is written tells what it is written of: the bytes of two blocks without an error are the same just if the blocks are. Arithmetic and lists alone.
-/

namespace Go.Proofs.YtebnebajedlhlaaDoor
open Go.RowKit

/-- It writes just x, whatever is there. -/
def Code (f : WSt → WSt) (x : List UInt8) : Prop := ∀ a, f (0, a) = (0, a ++ x)
/-- It writes something of its own, or fails; an error stays one. -/
structure Emit (f : WSt → WSt) : Prop where
  bad : ∀ s, s.1 ≠ 0 → (f s).1 ≠ 0
  way : (∃ x, Code f x) ∨ ∀ a, (f (0, a)).1 ≠ 0
theorem Emit.code {f : WSt → WSt} (h : Emit f) {a : List UInt8} (h0 : (f (0, a)).1 = 0) : ∃ x, Code f x := by
  rcases h.way with h | h
  · exact h
  · exact absurd h0 (h a)
theorem Code.one {f : WSt → WSt} {x y : List UInt8} (h : Code f x) (k : Code f y) : x = y := by
  have h1 := h []
  rw [k []] at h1
  simpa using h1.symm
theorem Emit.comp {f g : WSt → WSt} (hf : Emit f) (hg : Emit g) : Emit (fun s => g (f s)) := by
  refine ⟨fun s hs => hg.bad _ (hf.bad s hs), ?_⟩
  rcases hf.way with ⟨x, hx⟩ | h
  · rcases hg.way with ⟨y, hy⟩ | h
    · exact .inl ⟨x ++ y, fun a => by show g (f (0, a)) = _; rw [hx a, hy, List.append_assoc]⟩
    · exact .inr fun a => by show (g (f (0, a))).1 ≠ 0; rw [hx a]; exact h _
  · exact .inr fun a => hg.bad _ (h a)
theorem Code.parts {f g : WSt → WSt} {z : List UInt8} (hf : Emit f) (hg : Emit g) (h : Code (fun s => g (f s)) z) : ∃ x y, Code f x ∧ Code g y ∧ z = x ++ y := by
  rcases hf.way with ⟨x, hx⟩ | hb
  · rcases hg.way with ⟨y, hy⟩ | hb
    · refine ⟨x, y, hx, hy, ?_⟩
      have := h []
      simp only [hx [], List.nil_append] at this
      rw [hy x] at this
      exact (congrArg Prod.snd this).symm
    · have := h []
      simp only [hx []] at this
      exact absurd (congrArg Prod.fst this) (hb _)
  · exact absurd (congrArg Prod.fst (h [])) (hg.bad _ (hb []))
theorem emit_fail (k : Nat) (h : k ≠ 0) : Emit (sFail k) := ⟨fun s hs => by unfold sFail; rw [if_neg hs]; exact hs, .inr fun a => by simp [sFail, h]⟩
theorem code_fix (x : List UInt8) : Code (sFix x) x := fun a => by simp [sFix]
theorem emit_fix (x : List UInt8) : Emit (sFix x) := ⟨fun s hs => by unfold sFix; rw [if_neg hs]; exact hs, .inl ⟨x, code_fix x⟩⟩
theorem emit_id : Emit (fun s => s) := ⟨fun _ h => h, .inl ⟨[], fun a => by simp⟩⟩
theorem emit_num (n w : Int) : Emit (sNum n w) := by
  cases h : badNum n w with
  | true => rw [show sNum n w = sFail 1 from funext fun s => by unfold sNum; rw [if_pos h]]; exact emit_fail 1 (by decide)
  | false => rw [show sNum n w = sFix (be w.toNat n.toNat) from funext fun s => by unfold sNum; rw [if_neg (by rw [h]; simp)]]; exact emit_fix _
theorem code_num {n w : Int} {x : List UInt8} (h : Code (sNum n w) x) : badNum n w = false ∧ x = be w.toNat n.toNat := by
  cases hb : badNum n w with
  | true =>
    have := h []
    unfold sNum at this
    rw [if_pos hb] at this
    simp [sFail] at this
  | false =>
    refine ⟨rfl, ?_⟩
    have := h []
    unfold sNum at this
    rw [if_neg (by rw [hb]; simp)] at this
    simpa [sFix] using this.symm
theorem emit_all {α : Type} {f : α → WSt → WSt} : ∀ (L : List α), (∀ x ∈ L, Emit (f x)) → Emit (sAll f L)
  | [], _ => emit_id
  | x :: r, h => by
    have := (h x (by simp)).comp (emit_all r fun y hy => h y (List.mem_cons_of_mem _ hy))
    exact this
theorem emit_put {n : Nat} {most : Int} {f : WSt → WSt} (h : Emit f) : Emit (sPut n most f) := by
  by_cases hc : most < (n : Int) ∨ 255 < n
  · rw [show sPut n most f = sFail 1 from funext fun s => by unfold sPut; rw [if_pos hc]]; exact emit_fail 1 (by decide)
  · rw [show sPut n most f = fun s => f (sNum (n : Int) 1 s) from funext fun s => by unfold sPut; rw [if_neg hc]]; exact (emit_num _ _).comp h
theorem code_put {n : Nat} {most : Int} {f : WSt → WSt} (hf : Emit f) {z : List UInt8} (h : Code (sPut n most f) z) : n ≤ 255 ∧ ∃ y, Code f y ∧ z = be 1 n ++ y := by
  by_cases hc : most < (n : Int) ∨ 255 < n
  · rw [show sPut n most f = sFail 1 from funext fun s => by unfold sPut; rw [if_pos hc]] at h
    have := h []
    simp [sFail] at this
  · rw [show sPut n most f = fun s => f (sNum (n : Int) 1 s) from funext fun s => by unfold sPut; rw [if_neg hc]] at h
    obtain ⟨x, y, hx, hy, rfl⟩ := Code.parts (emit_num _ _) hf h
    obtain ⟨_, rfl⟩ := code_num hx
    exact ⟨by omega, y, hy, rfl⟩
theorem emit_bytes (l : List UInt8) (most : Int) : Emit (sBytes l most) := by
  by_cases hc : most < (l.length : Int) ∨ 65535 < l.length
  · rw [show sBytes l most = sFail 1 from funext fun s => by unfold sBytes; rw [if_pos hc]]; exact emit_fail 1 (by decide)
  · rw [show sBytes l most = fun s => sFix l (sNum (l.length : Int) 2 s) from funext fun s => by unfold sBytes; rw [if_neg hc]]; exact (emit_num _ _).comp (emit_fix l)
theorem code_bytes {l : List UInt8} {most : Int} {z : List UInt8} (h : Code (sBytes l most) z) : l.length ≤ 65535 ∧ z = be 2 l.length ++ l := by
  by_cases hc : most < (l.length : Int) ∨ 65535 < l.length
  · rw [show sBytes l most = sFail 1 from funext fun s => by unfold sBytes; rw [if_pos hc]] at h
    have := h []
    simp [sFail] at this
  · rw [show sBytes l most = fun s => sFix l (sNum (l.length : Int) 2 s) from funext fun s => by unfold sBytes; rw [if_neg hc]] at h
    obtain ⟨x, y, hx, hy, rfl⟩ := Code.parts (emit_num _ _) (emit_fix l) h
    obtain ⟨_, rfl⟩ := code_num hx
    have := (code_fix l).one hy
    subst this
    exact ⟨by omega, rfl⟩

theorem be_mod : ∀ (k n m : Nat), be k n = be k m → n % 256 ^ k = m % 256 ^ k
  | 0, n, m, _ => by simp [Nat.mod_one]
  | k + 1, n, m, h => by
    rw [be, be] at h
    injection h with h1 h2
    have h1' := congrArg UInt8.toNat h1
    simp at h1'
    have h3 := be_mod k n m h2
    rw [Nat.pow_succ, Nat.mod_mul, Nat.mod_mul, h3, h1']
theorem be_inj {k n m : Nat} (h : be k n = be k m) (hn : n < 256 ^ k) (hm : m < 256 ^ k) : n = m := by
  have := be_mod k n m h
  rwa [Nat.mod_eq_of_lt hn, Nat.mod_eq_of_lt hm] at this
theorem badNum_no {n : Int} {k : Nat} (h : badNum n (k : Int) = false) : 0 ≤ n ∧ n.toNat < 256 ^ k := by
  unfold badNum at h
  simp only [Bool.or_eq_false_iff, decide_eq_false_iff_not, bne_eq_false_iff_eq] at h
  obtain ⟨⟨⟨_, _⟩, h3⟩, h4⟩ := h
  obtain ⟨m, rfl⟩ : ∃ m : Nat, n = m := ⟨n.toNat, by omega⟩
  refine ⟨by omega, ?_⟩
  rw [Int.toNat_natCast] at h4 ⊢
  rw [shr_cast] at h4
  have hp : 0 < 256 ^ k := Nat.pow_pos (by decide)
  have : m / 256 ^ k = 0 := by omega
  exact (Nat.div_eq_zero_iff_lt hp).1 this
/-- Of two that are written with anything behind them: they are alike, and so is what is behind. -/
def Uni {α : Type} (f : α → WSt → WSt) (u v : α) (R : Prop) : Prop := ∀ x y r t, Code (f u) x → Code (f v) y → x ++ r = y ++ t → R ∧ r = t
theorem uni_num (k : Nat) (n m : Int) {x y r t : List UInt8} (hx : Code (sNum n (k : Int)) x) (hy : Code (sNum m (k : Int)) y) (h : x ++ r = y ++ t) : n = m ∧ r = t := by
  obtain ⟨b1, rfl⟩ := code_num hx
  obtain ⟨b2, rfl⟩ := code_num hy
  rw [Int.toNat_natCast] at h
  obtain ⟨h1, h2⟩ := List.append_inj h (by rw [be_length, be_length])
  obtain ⟨n0, n1⟩ := badNum_no b1
  obtain ⟨m0, m1⟩ := badNum_no b2
  have := be_inj h1 n1 m1
  exact ⟨by omega, h2⟩
theorem dgB_inj : ∀ {d e : List Int}, (∀ z ∈ d, 0 ≤ z ∧ z < 256) → (∀ z ∈ e, 0 ≤ z ∧ z < 256) → dgB d = dgB e → d = e
  | [], [], _, _, _ => rfl
  | [], _ :: _, _, _, h => by simp [dgB] at h
  | _ :: _, [], _, _, h => by simp [dgB] at h
  | a :: d, b :: e, hd, he, h => by
    simp only [dgB, List.map_cons, List.cons.injEq] at h
    have h1 := congrArg UInt8.toNat h.1
    have ha := hd a (by simp)
    have hb := he b (by simp)
    simp at h1
    have : a = b := by omega
    rw [this, dgB_inj (fun z hz => hd z (List.mem_cons_of_mem _ hz)) (fun z hz => he z (List.mem_cons_of_mem _ hz)) h.2]
theorem uni_dig {d e : List Int} (hd : isDig d) (he : isDig e) {x y r t : List UInt8} (hx : Code (sDig d) x) (hy : Code (sDig e) y) (h : x ++ r = y ++ t) : d = e ∧ r = t := by
  have ex := (code_fix (dgB d)).one hx
  have ey := (code_fix (dgB e)).one hy
  subst ex; subst ey
  obtain ⟨h1, h2⟩ := List.append_inj h (by rw [dgB_length, dgB_length, hd.1, he.1])
  exact ⟨dgB_inj hd.2 he.2 h1, h2⟩
/-- Rows: elements one by one. -/
theorem uni_all {α : Type} {f : α → WSt → WSt} {R : α → α → Prop} {ok : α → Prop} (hf : ∀ u v, ok u → ok v → Uni f u v (R u v)) (he : ∀ u, Emit (f u)) : ∀ (L M : List α), L.length = M.length → (∀ u ∈ L, ok u) → (∀ u ∈ M, ok u) →
    ∀ x y r t, Code (sAll f L) x → Code (sAll f M) y → x ++ r = y ++ t → (∀ j (h1 : j < L.length) (h2 : j < M.length), R L[j] M[j]) ∧ r = t
  | [], [], _, _, _, x, y, r, t, hx, hy, h => by
    have e1 := hx []
    have e2 := hy []
    simp [sAll] at e1 e2
    subst e1; subst e2
    exact ⟨fun j h1 => by simp at h1, by simpa using h⟩
  | u :: L, v :: M, hl, hL, hM, x, y, r, t, hx, hy, h => by
    obtain ⟨x1, x2, hx1, hx2, rfl⟩ := Code.parts (he u) (emit_all L fun w _ => he w) (show Code (fun s => sAll f L (f u s)) x from hx)
    obtain ⟨y1, y2, hy1, hy2, rfl⟩ := Code.parts (he v) (emit_all M fun w _ => he w) (show Code (fun s => sAll f M (f v s)) y from hy)
    rw [List.append_assoc, List.append_assoc] at h
    obtain ⟨h1, h2⟩ := hf u v (hL u (by simp)) (hM v (by simp)) _ _ _ _ hx1 hy1 h
    obtain ⟨h3, h4⟩ := uni_all hf he L M (by simpa using hl) (fun w hw => hL w (List.mem_cons_of_mem _ hw)) (fun w hw => hM w (List.mem_cons_of_mem _ hw)) _ _ _ _ hx2 hy2 h2
    refine ⟨fun j j1 j2 => ?_, h4⟩
    cases j with
    | zero => exact h1
    | succ j => exact h3 j (by simpa using j1) (by simpa using j2)
  | [], _ :: _, hl, _, _, _, _, _, _, _, _, _ => by simp at hl
  | _ :: _, [], hl, _, _, _, _, _, _, _, _, _ => by simp at hl
theorem uni_put {α : Type} {f : α → WSt → WSt} {R : α → α → Prop} {ok : α → Prop} (hf : ∀ u v, ok u → ok v → Uni f u v (R u v)) (he : ∀ u, Emit (f u)) (most : Int) (L M : List α) (hL : ∀ u ∈ L, ok u) (hM : ∀ u ∈ M, ok u) {x y r t : List UInt8}
    (hx : Code (sPut L.length most (sAll f L)) x) (hy : Code (sPut M.length most (sAll f M)) y) (h : x ++ r = y ++ t) : (L.length = M.length ∧ ∀ j (h1 : j < L.length) (h2 : j < M.length), R L[j] M[j]) ∧ r = t := by
  obtain ⟨l1, x2, hx2, rfl⟩ := code_put (emit_all L fun w _ => he w) hx
  obtain ⟨l2, y2, hy2, rfl⟩ := code_put (emit_all M fun w _ => he w) hy
  rw [List.append_assoc, List.append_assoc] at h
  obtain ⟨h1, h2⟩ := List.append_inj h (by rw [be_length, be_length])
  have hl : L.length = M.length := be_inj h1 (by omega) (by omega)
  obtain ⟨h3, h4⟩ := uni_all hf he L M hl hL hM _ _ _ _ hx2 hy2 h2
  exact ⟨⟨hl, h3⟩, h4⟩
theorem all_eq {L M : List (List Int)} (h : L.length = M.length ∧ ∀ j (h1 : j < L.length) (h2 : j < M.length), L[j] = M[j]) : L = M := List.ext_getElem h.1 h.2
theorem emit_sig (lf : Int) (cs ps : List (List Int)) : Emit (sSig lf cs ps) :=
  ((emit_num lf 1).comp (emit_put (n := cs.length) (most := 68) (emit_all cs fun d _ => emit_fix (dgB d)))).comp (emit_put (n := ps.length) (most := 5) (emit_all ps fun d _ => emit_fix (dgB d)))
theorem emit_sg (x : Sg) : Emit (sSg x) := (emit_num x.who 1).comp (emit_sig x.lf x.cs x.ps)
theorem emit_vd (x : Vd) : Emit (sVd x) := (emit_fix (dgB x.key)).comp (emit_num x.p 6)
theorem emit_tx (x : Tx) : Emit (sTx x) := emit_bytes x.l 16
theorem emit_turn (e r : Int) : Emit (sTurn e r) := (emit_num e 4).comp (emit_num r 6)
theorem emit_qc (q : Qc) : Emit (sQc q) := ((emit_turn q.e q.r).comp (emit_fix (dgB q.Bl))).comp (emit_put (n := q.L.length) (most := 7) (emit_all q.L fun x _ => emit_sg x))
theorem emit_bk (b : Bk) : Emit (sBk b) :=
  ((((emit_turn b.e b.r).comp (emit_fix (dgB b.P))).comp (emit_qc b.q)).comp (emit_put (n := b.T.length) (most := 4) (emit_all b.T fun x _ => emit_tx x))).comp (emit_put (n := b.V.length) (most := 7) (emit_all b.V fun x _ => emit_vd x))
def sgFit (x : Sg) : Prop := (∀ d ∈ x.cs, isDig d) ∧ ∀ d ∈ x.ps, isDig d
theorem uni_sg (x y : Sg) (hx : sgFit x) (hy : sgFit y) : Uni sSg x y (x.who = y.who ∧ sgEq x y = true) := fun a b r t ha hb h => by
  obtain ⟨a1, a2, ha1, ha2, rfl⟩ := Code.parts (emit_num x.who 1) (emit_sig x.lf x.cs x.ps) ha
  obtain ⟨b1, b2, hb1, hb2, rfl⟩ := Code.parts (emit_num y.who 1) (emit_sig y.lf y.cs y.ps) hb
  rw [List.append_assoc, List.append_assoc] at h
  obtain ⟨e1, h⟩ := uni_num 1 _ _ ha1 hb1 h
  obtain ⟨a3, a4, ha3, ha4, rfl⟩ := Code.parts ((emit_num x.lf 1).comp (emit_put (n := x.cs.length) (most := 68) (emit_all x.cs fun d _ => emit_fix (dgB d)))) (emit_put (n := x.ps.length) (most := 5) (emit_all x.ps fun d _ => emit_fix (dgB d))) ha2
  obtain ⟨b3, b4, hb3, hb4, rfl⟩ := Code.parts ((emit_num y.lf 1).comp (emit_put (n := y.cs.length) (most := 68) (emit_all y.cs fun d _ => emit_fix (dgB d)))) (emit_put (n := y.ps.length) (most := 5) (emit_all y.ps fun d _ => emit_fix (dgB d))) hb2
  obtain ⟨a5, a6, ha5, ha6, rfl⟩ := Code.parts (emit_num x.lf 1) (emit_put (n := x.cs.length) (most := 68) (emit_all x.cs fun d _ => emit_fix (dgB d))) ha3
  obtain ⟨b5, b6, hb5, hb6, rfl⟩ := Code.parts (emit_num y.lf 1) (emit_put (n := y.cs.length) (most := 68) (emit_all y.cs fun d _ => emit_fix (dgB d))) hb3
  simp only [List.append_assoc] at h
  obtain ⟨e2, h⟩ := uni_num 1 _ _ ha5 hb5 h
  obtain ⟨e3, h⟩ := uni_put (f := sDig) (R := fun d e => d = e) (fun u v hu hv => fun _ _ _ _ p q h => uni_dig hu hv p q h) (fun u => emit_fix (dgB u)) 68 x.cs y.cs hx.1 hy.1 ha6 hb6 h
  obtain ⟨e4, h⟩ := uni_put (f := sDig) (R := fun d e => d = e) (fun u v hu hv => fun _ _ _ _ p q h => uni_dig hu hv p q h) (fun u => emit_fix (dgB u)) 5 x.ps y.ps hx.2 hy.2 ha4 hb4 h
  refine ⟨⟨e1, ?_⟩, h⟩
  simp [sgEq, e2, all_eq e3, all_eq e4]
theorem uni_vd (x y : Vd) (hx : isDig x.key) (hy : isDig y.key) : Uni sVd x y (x.key = y.key ∧ x.p = y.p) := fun a b r t ha hb h => by
  obtain ⟨a1, a2, ha1, ha2, rfl⟩ := Code.parts (emit_fix (dgB x.key)) (emit_num x.p 6) ha
  obtain ⟨b1, b2, hb1, hb2, rfl⟩ := Code.parts (emit_fix (dgB y.key)) (emit_num y.p 6) hb
  rw [List.append_assoc, List.append_assoc] at h
  obtain ⟨e1, h⟩ := uni_dig hx hy ha1 hb1 h
  obtain ⟨e2, h⟩ := uni_num 6 _ _ ha2 hb2 h
  exact ⟨⟨e1, e2⟩, h⟩
theorem uni_tx (x y : Tx) : Uni sTx x y (x.l = y.l) := fun a b r t ha hb h => by
  obtain ⟨l1, rfl⟩ := code_bytes ha
  obtain ⟨l2, rfl⟩ := code_bytes hb
  rw [List.append_assoc, List.append_assoc] at h
  obtain ⟨h1, h2⟩ := List.append_inj h (by rw [be_length, be_length])
  have hl := be_inj h1 (by omega) (by omega)
  exact List.append_inj h2 hl
theorem DigRow.fit {w : World} {A : Option Addr} {n : Nat} {ps : List (List Int)} (h : DigRow w A n ps) : ∀ d ∈ ps, isDig d := h.2.1
theorem uni_qc (p q : Qc) (hp : isDig p.Bl) (hq : isDig q.Bl) (kp : ∀ x ∈ p.L, sgFit x) (kq : ∀ x ∈ q.L, sgFit x) : Uni sQc p q (qcEq p q = true) := fun a b r t ha hb h => by
  obtain ⟨a1, a2, ha1, ha2, rfl⟩ := Code.parts ((emit_turn p.e p.r).comp (emit_fix (dgB p.Bl))) (emit_put (n := p.L.length) (most := 7) (emit_all p.L fun x _ => emit_sg x)) ha
  obtain ⟨b1, b2, hb1, hb2, rfl⟩ := Code.parts ((emit_turn q.e q.r).comp (emit_fix (dgB q.Bl))) (emit_put (n := q.L.length) (most := 7) (emit_all q.L fun x _ => emit_sg x)) hb
  obtain ⟨a3, a4, ha3, ha4, rfl⟩ := Code.parts (emit_turn p.e p.r) (emit_fix (dgB p.Bl)) ha1
  obtain ⟨b3, b4, hb3, hb4, rfl⟩ := Code.parts (emit_turn q.e q.r) (emit_fix (dgB q.Bl)) hb1
  obtain ⟨a5, a6, ha5, ha6, rfl⟩ := Code.parts (emit_num p.e 4) (emit_num p.r 6) ha3
  obtain ⟨b5, b6, hb5, hb6, rfl⟩ := Code.parts (emit_num q.e 4) (emit_num q.r 6) hb3
  simp only [List.append_assoc] at h
  obtain ⟨e1, h⟩ := uni_num 4 _ _ ha5 hb5 h
  obtain ⟨e2, h⟩ := uni_num 6 _ _ ha6 hb6 h
  obtain ⟨e3, h⟩ := uni_dig hp hq ha4 hb4 h
  obtain ⟨e4, h⟩ := uni_put (f := sSg) (R := fun x y => x.who = y.who ∧ sgEq x y = true) uni_sg emit_sg 7 p.L q.L kp kq ha2 hb2 h
  refine ⟨?_, h⟩
  have : sgsEq p.L q.L = true := sgsEq_true e4
  simp [qcEq, e1, e2, e3, this]
def bkFit (b : Bk) : Prop := isDig b.P ∧ isDig b.q.Bl ∧ (∀ x ∈ b.q.L, sgFit x) ∧ ∀ x ∈ b.V, isDig x.key
theorem Bk.At.fit {w : World} {b : Bk} (h : b.At w) : bkFit b := ⟨h.1, h.2.1.1, fun x hx => ⟨(h.2.1.2.2 x hx).1.fit, (h.2.1.2.2 x hx).2.fit⟩, h.2.2.2.2⟩
theorem uni_bk (p q : Bk) (hp : bkFit p) (hq : bkFit q) : Uni sBk p q (bkEq p q = true) := fun a b r t ha hb h => by
  obtain ⟨a1, a2, ha1, ha2, rfl⟩ := Code.parts ((((emit_turn p.e p.r).comp (emit_fix (dgB p.P))).comp (emit_qc p.q)).comp (emit_put (n := p.T.length) (most := 4) (emit_all p.T fun x _ => emit_tx x))) (emit_put (n := p.V.length) (most := 7) (emit_all p.V fun x _ => emit_vd x)) ha
  obtain ⟨b1, b2, hb1, hb2, rfl⟩ := Code.parts ((((emit_turn q.e q.r).comp (emit_fix (dgB q.P))).comp (emit_qc q.q)).comp (emit_put (n := q.T.length) (most := 4) (emit_all q.T fun x _ => emit_tx x))) (emit_put (n := q.V.length) (most := 7) (emit_all q.V fun x _ => emit_vd x)) hb
  obtain ⟨a3, a4, ha3, ha4, rfl⟩ := Code.parts (((emit_turn p.e p.r).comp (emit_fix (dgB p.P))).comp (emit_qc p.q)) (emit_put (n := p.T.length) (most := 4) (emit_all p.T fun x _ => emit_tx x)) ha1
  obtain ⟨b3, b4, hb3, hb4, rfl⟩ := Code.parts (((emit_turn q.e q.r).comp (emit_fix (dgB q.P))).comp (emit_qc q.q)) (emit_put (n := q.T.length) (most := 4) (emit_all q.T fun x _ => emit_tx x)) hb1
  obtain ⟨a5, a6, ha5, ha6, rfl⟩ := Code.parts ((emit_turn p.e p.r).comp (emit_fix (dgB p.P))) (emit_qc p.q) ha3
  obtain ⟨b5, b6, hb5, hb6, rfl⟩ := Code.parts ((emit_turn q.e q.r).comp (emit_fix (dgB q.P))) (emit_qc q.q) hb3
  obtain ⟨a7, a8, ha7, ha8, rfl⟩ := Code.parts (emit_turn p.e p.r) (emit_fix (dgB p.P)) ha5
  obtain ⟨b7, b8, hb7, hb8, rfl⟩ := Code.parts (emit_turn q.e q.r) (emit_fix (dgB q.P)) hb5
  obtain ⟨a9, a0, ha9, ha0, rfl⟩ := Code.parts (emit_num p.e 4) (emit_num p.r 6) ha7
  obtain ⟨b9, b0, hb9, hb0, rfl⟩ := Code.parts (emit_num q.e 4) (emit_num q.r 6) hb7
  simp only [List.append_assoc] at h
  obtain ⟨e1, h⟩ := uni_num 4 _ _ ha9 hb9 h
  obtain ⟨e2, h⟩ := uni_num 6 _ _ ha0 hb0 h
  obtain ⟨e3, h⟩ := uni_dig hp.1 hq.1 ha8 hb8 h
  obtain ⟨e4, h⟩ := uni_qc p.q q.q hp.2.1 hq.2.1 hp.2.2.1 hq.2.2.1 _ _ _ _ ha6 hb6 h
  obtain ⟨e5, h⟩ := uni_put (f := sTx) (R := fun x y => x.l = y.l) (ok := fun _ => True) (fun u v _ _ => uni_tx u v) emit_tx 4 p.T q.T (fun _ _ => trivial) (fun _ _ => trivial) ha4 hb4 h
  obtain ⟨e6, h⟩ := uni_put (f := sVd) (R := fun x y => x.key = y.key ∧ x.p = y.p) (ok := fun x => isDig x.key) uni_vd emit_vd 7 p.V q.V hp.2.2.2 hq.2.2.2 ha2 hb2 h
  refine ⟨?_, h⟩
  have h1 : txsEq p.T q.T = true := txsEq_true e5
  have h2 : sameS p.V q.V = true := sameS_all e6.1 e6.2
  simp [bkEq, e1, e2, e3, e4, h1, h2]
/-- What is alike is written alike. -/
theorem all_alike {α : Type} {f : α → WSt → WSt} : ∀ {L M : List α}, L.length = M.length → (∀ j (h1 : j < L.length) (h2 : j < M.length), f L[j] = f M[j]) → sAll f L = sAll f M
  | [], [], _, _ => rfl
  | u :: L, v :: M, hl, h => by
    have h0 : f u = f v := h 0 (by simp) (by simp)
    have := all_alike (f := f) (L := L) (M := M) (by simpa using hl) fun j h1 h2 => h (j + 1) (by simpa using h1) (by simpa using h2)
    funext s
    show sAll f L (f u s) = sAll f M (f v s)
    rw [h0, this]
  | [], _ :: _, hl, _ => by simp at hl
  | _ :: _, [], hl, _ => by simp at hl
theorem alike_sg {x y : Sg} (h : x.who = y.who ∧ sgEq x y = true) : sSg x = sSg y := by
  simp only [sgEq, Bool.and_eq_true, decide_eq_true_eq] at h
  obtain ⟨h0, ⟨h1, h2⟩, h3⟩ := h
  funext s; simp [sSg, h0, h1, h2, h3]
theorem alike_qc {p q : Qc} (h : qcEq p q = true) : sQc p = sQc q := by
  simp only [qcEq, Bool.and_eq_true, decide_eq_true_eq] at h
  obtain ⟨h0, h1, h2, h3⟩ := h
  have hp : sgsEqP p.L q.L := by
    refine Classical.byContradiction fun hn => ?_
    rw [sgsEq_false hn] at h3; cases h3
  funext s; simp only [sQc, h0, h1, h2, hp.1, all_alike hp.1 fun j h1 h2 => alike_sg (hp.2 j h1 h2)]
theorem alike_bk {p q : Bk} (h : bkEq p q = true) : bkS p = bkS q := by
  simp only [bkEq, Bool.and_eq_true, decide_eq_true_eq] at h
  obtain ⟨h0, h1, h2, h3, h4, h5⟩ := h
  have hp : txsEqP p.T q.T := by
    refine Classical.byContradiction fun hn => ?_
    rw [txsEq_false hn] at h4; cases h4
  have hv : p.V.length = q.V.length ∧ ∀ j (h1 : j < p.V.length) (h2 : j < q.V.length), p.V[j].key = q.V[j].key ∧ p.V[j].p = q.V[j].p := by
    simp only [sameS, Bool.and_eq_true, decide_eq_true_eq] at h5
    have hl : p.V.length = q.V.length := by simpa using congrArg List.length h5.1
    refine ⟨hl, fun j j1 j2 => ⟨?_, ?_⟩⟩
    · have := List.getElem_of_eq h5.1 (i := j) (by simpa using j1)
      simpa using this
    · have := List.getElem_of_eq h5.2 (i := j) (by simpa using j1)
      simpa using this
  have ev : sAll sVd p.V = sAll sVd q.V := all_alike hv.1 fun j j1 j2 => by
    have := hv.2 j j1 j2
    funext s; simp [sVd, this.1, this.2]
  have et : sAll sTx p.T = sAll sTx q.T := all_alike hp.1 fun j j1 j2 => by
    have := hp.2 j j1 j2
    funext s; simp [sTx, this]
  simp only [bkS, sBk, h0, h1, h2, alike_qc h3, hp.1, hv.1, ev, et]
/-- Two blocks without an error: the same bytes just if they are the same. -/
theorem bytes_same {p q : Bk} (hp : bkFit p) (hq : bkFit q) (h0 : (bkS p).1 = 0) (h1 : (bkS q).1 = 0) : bkEq p q = decide ((bkS p).2 = (bkS q).2) := by
  cases h : bkEq p q with
  | true => rw [alike_bk h]; simp
  | false =>
    symm
    refine decide_eq_false fun he => ?_
    obtain ⟨x, hx⟩ := (emit_bk p).code h0
    obtain ⟨y, hy⟩ := (emit_bk q).code h1
    have e1 : (bkS p).2 = x := by unfold bkS; rw [hx []]; simp
    have e2 : (bkS q).2 = y := by unfold bkS; rw [hy []]; simp
    rw [e1, e2] at he
    have := (uni_bk p q hp hq x y [] [] hx hy (by rw [he])).1
    rw [h] at this; cases this
end Go.Proofs.YtebnebajedlhlaaDoor
/-
  The document's Big: of a signature, a QC, a TC, a block.
-/
namespace Go.Proofs.YtebnebajedlhlaaDoor
open Go.RowKit

attribute [local go_sem] Oper.semAt_some

def bigN (n1 n2 : Nat) : Bool := decide (100 < (n1 : Int)) || decide (20 < (n2 : Int))
def bigSg (s : Sg) : Bool := bigN s.n1 s.n2
def bigLt (s : Lt) : Bool := bigN s.n1 s.n2
def bigQc (q : Qc) : Bool := decide (12 < q.L.length) || q.L.any bigSg
def bigTc (q : Tc) : Bool := decide (12 < q.L.length) || q.L.any bigLt
def bigBk (b : Bk) : Bool := decide (12 < b.T.length) || (decide (12 < b.V.length) || (b.T.any (fun t => decide (100 < t.l.length)) || bigQc b.q))
theorem Qc.cell18 {w : World} {g : Nat} {t : TypeId} {q : Qc} (h : q.Bl.length = 16) (hb : Blk w g t q.val) : w.cell? ⟨g, 18, none⟩ = some (.slice q.A q.L.length q.c) := by
  have r := range_blk0 hb
  have := r 18 (.slice q.A q.L.length q.c) (by simp [Qc.val, arrV, h])
  rwa [Nat.zero_add] at this
theorem sz_QCb : (Tryd.prog.info? 26).map (·.size) = some 19 := by kernel_rfl
theorem rbigV_is (w : World) (lf : Int) (A1 A2 : Option Addr) (n1 c1 n2 c2 : Nat) : Calls Tryd.prog 19 #[.agg (sigV lf (.slice A1 n1 c1) (.slice A2 n2 c2))] w fun e w' => e = .returned (.bool (bigN n1 n2)) ∧ w.grownBy w' none := by
  obtain ⟨r, hr⟩ : ∃ r, r = bigN n1 n2 := ⟨_, rfl⟩
  rw [← hr]
  simp only [sigV]
  by_cases h1 : 100 < (n1 : Int)
  · have d1 : decide (100 < (n1 : Int)) = true := by simp; omega
    have HR := Lib.hid (show r = true by rw [hr, bigN, d1]; rfl)
    clear hr h1
    go_enter Tryd.func19, Tryd.ntmps19
    go_wp2_with fail
    go_ret
    exact ⟨by rw [HR.out]; rfl, World.grownBy_alloc _ _ none⟩
  · have d1 : decide (100 < (n1 : Int)) = false := by simp; omega
    obtain ⟨b, hb⟩ : ∃ b, b = decide (20 < (n2 : Int)) := ⟨_, rfl⟩
    have HR := Lib.hid (show r = b by rw [hr, bigN, d1, ← hb]; rfl)
    have d2 := hb.symm
    clear hr h1 hb
    cases b
    all_goals
      go_enter Tryd.func19, Tryd.ntmps19
      go_wp2_with fail
      go_ret
      exact ⟨by rw [HR.out]; rfl, World.grownBy_alloc _ _ none⟩
theorem rbigSg_is (w : World) (s : Sg) : Calls Tryd.prog 19 #[.agg s.sig] w fun e w' => e = .returned (.bool (bigSg s)) ∧ w.grownBy w' none := rbigV_is w _ _ _ _ _ _ _
theorem rbigLt_is (w : World) (s : Lt) : Calls Tryd.prog 19 #[.agg s.sig] w fun e w' => e = .returned (.bool (bigLt s)) ∧ w.grownBy w' none := rbigV_is w _ _ _ _ _ _ _
set_option maxRecDepth 100000 in
set_option maxHeartbeats 1000000 in
theorem rbigQ_is (w : World) (q0 : Qc) (hq0 : q0.At w) (qv : Array Value) (hqv : qv = q0.val) :
    Calls Tryd.prog 10 #[.agg qv] w fun e' w' => e' = .returned (.bool (bigQc q0)) ∧ w.grownBy w' none := by
  obtain ⟨q, hq⟩ : ∃ q, w.heap.size = q := ⟨_, rfl⟩
  obtain ⟨w1, hw1⟩ : ∃ w1, w.alloc (.cells qv 26) = w1 := ⟨_, rfl⟩
  have g1 : w.grownBy w1 none := by rw [← hw1]; exact World.grownBy_alloc _ _ none
  have b1 : Blk w1 q 26 q0.val := by rw [← hw1, ← hq, ← hqv]; exact Blk.new _ _ _
  have x3 := Qc.cell18 hq0.1.1 b1
  have hA := hq0.2.1
  obtain ⟨e, r, Bl, A2, c2, L⟩ := q0
  simp only at x3 hA
  obtain ⟨sZ, hsZ, hz4⟩ : ∃ Z : Array Value, Z.size = 4 ∧ ∀ w : World, Sem.run Tryd.prog (zeroValue 48) w = .ok (.agg Z) w := ⟨zv_Sg, rfl, zz_Sg⟩
  have HSZ := Lib.hid hsZ
  clear hsZ
  obtain ⟨n, hn⟩ : ∃ n, L.length = n := ⟨_, rfl⟩
  rw [hn] at x3
  obtain ⟨R, hR⟩ : ∃ R, R = bigQc ⟨e, r, Bl, A2, c2, L⟩ := ⟨_, rfl⟩
  rw [← hR]
  have HW := Lib.hid (And.intro hw1 hq)
  have HX := Lib.hid (And.intro g1 (And.intro (hA.grown g1) (And.intro hn hR)))
  clear g1 b1 hA hn hR hqv hw1 hq hq0
  by_cases h12 : 12 < (n : Int)
  · have d1 : decide (12 < (n : Int)) = true := by simp; omega
    have HN := Lib.hid (show R = true by rw [HX.out.2.2.2, bigQc, decide_eq_true (show 12 < L.length by have := HX.out.2.2.1; omega)]; rfl)
    clear h12
    go_enter Tryd.func10, Tryd.ntmps10
    go_upto_region 1 with (fail)
    rw [HW.out.1, HW.out.2]
    go_wp2_with fail
    go_ret
    exact ⟨by rw [HN.out]; rfl, HX.out.1⟩
  · have d1 : decide (12 < (n : Int)) = false := by simp; omega
    have hn12 : n ≤ 12 := by omega
    have HD := Lib.hid (show R = L.any bigSg by rw [HX.out.2.2.2, bigQc, decide_eq_false (show ¬ 12 < L.length by have := HX.out.2.2.1; omega)]; rfl)
    clear h12
    go_enter Tryd.func10, Tryd.ntmps10
    go_upto_region 1 with (fail)
    rw [HW.out.1, HW.out.2]
    go_wp2_with fail
    clear x3
    go_loopw [12] (fun i wr => ∃ k : Nat, k ≤ n ∧ i = .int .i64 (k : Int) ∧ Hid (∀ s ∈ L.take k, bigSg s = false) ∧ w1.grownBy wr none) (fun i _ => n - (intOf i).toNat)
    case atStart => exact ⟨0, Nat.zero_le _, rfl, Lib.hid (by simp), World.grownBy.refl w1 none⟩
    case round =>
      obtain ⟨k, hk, hi, hno, hK⟩ := hrel
      obtain ⟨I, hI⟩ : ∃ I : Int, I = (k : Int) := ⟨_, rfl⟩
      rw [← hI] at hi
      subst hi
      rename World => wr
      by_cases hlt : k < n
      · have hlt' : k < L.length := by have := HX.out.2.2.1; omega
        have hne : L ≠ [] := by rintro rfl; simp at hlt'
        obtain ⟨b, off, rfl, hc⟩ := HX.out.2.1 hne
        have d2 : decide (I < (n : Int)) = true := by simp; omega
        have hIV : I < (n : Int) := by omega
        have hI0 : 0 ≤ I ∧ I < 1000 := by omega
        have hkI : I.toNat = k := by omega
        have r1 := range_kept (hc k hlt') hK
        obtain ⟨x, hxe⟩ : ∃ x, x = L[k] := ⟨_, rfl⟩
        rw [← hxe] at r1
        rw [← hkI] at r1
        obtain ⟨cs, hcs⟩ : ∃ cs, cs = x.cells := ⟨_, rfl⟩
        have hc4 : cs.size = 4 := by rw [hcs]; rfl
        have hc1 : (cs.all fun v => v.oneCell') = true := by rw [hcs]; exact sg_one x
        rw [← hcs] at r1
        obtain ⟨W0, hW0⟩ : ∃ W0, W0 = (wr.alloc (.cells sZ 48)).setRow wr.heap.size cs := ⟨_, rfl⟩
        have hG0 : wr.grownBy W0 none := by rw [hW0]; exact grown_row (World.grownBy_alloc wr _ none) (.inl (Nat.le_refl _)) cs
        have bS : Blk W0 wr.heap.size 48 cs := by rw [hW0]; exact (Blk.new wr 48 sZ).row cs
        have rS := range_blk0 bS
        have rg : W0.rangeAt wr.heap.size 1 x.sig.toList := by
          rw [show cs.toList = [.int .i64 x.who] ++ (x.sig.toList ++ []) by rw [hcs]; simp [Sg.cells]] at rS
          have := range_seg rS
          rwa [Nat.zero_add] at this
        have HC := Lib.hid (And.intro hc4 (And.intro hc1 (And.intro r1 rg)))
        have HN := Lib.hid (And.intro hno (And.intro (grown_trans hK hG0) (And.intro hI (And.intro hlt' (And.intro hxe hlt)))))
        have HW2 := Lib.hid hW0
        have HS := Lib.hid (rbigSg_is W0 x)
        obtain ⟨sg, hse⟩ : ∃ sg, sg = x.sig := ⟨_, rfl⟩
        rw [← hse] at HS
        have HSE := Lib.hid hse
        clear r1 rg hxe hcs hc4 hc1 hG0 bS rS hc hne hI hkI hlt hK hW0 hno hse
        go_wp2_with (first
          | (refine wpList_load_mid rfl 48 _ rfl b (off + I.toNat * 4) rfl cs.toList _ HC.out.2.2.1 Tryd.underlying48 rfl (by rw [Array.length_toList, HC.out.1]; exact sz_Sg) ?_; rw [Array.toArray_toList])
          | (refine wpList_store_row rfl 48 _ _ rfl wr.heap.size cs rfl rfl 48 _ (heap_alloc_new wr _) (by rw [HC.out.1]; exact sz_Sg) (by rw [HC.out.1]; first | exact HSZ.out | exact HSZ.out.symm) HC.out.2.1 ?_
             rw [← HW2.out])
          | (refine wpList_load_mid rfl 46 _ rfl wr.heap.size 1 rfl x.sig.toList _ HC.out.2.2.2 Tryd.underlying46 rfl (by exact sz_Sig) ?_; rw [Array.toArray_toList, ← HSE.out]))
        refine HS.out.mono ?_
        rintro e3 W3 ⟨rfl, g3⟩
        have HG3 := Lib.hid (grown_trans HN.out.2.1 g3)
        clear g3
        obtain ⟨bb, hbb⟩ : ∃ bb, bb = bigSg x := ⟨_, rfl⟩
        rw [← hbb]
        have HBB := Lib.hid hbb
        clear hbb
        cases bb
        · go_wp2_with fail
          go_roundw
          case rel =>
            obtain ⟨n1, n2, n3, n4, n5, n6⟩ := HN.out
            refine ⟨k + 1, by omega, by rw [n3]; rfl, Lib.hid (fun s hs => ?_), HG3.out⟩
            rw [← List.take_append_getElem n4, List.mem_append] at hs
            rcases hs with hs | hs
            · exact n1.out s hs
            · simp at hs; rw [hs, ← n5]; exact HBB.out.symm
          case measure => obtain ⟨n1, n2, n3, n4, n5, n6⟩ := HN.out; simp [intOf]; omega
        · have HRR := Lib.hid (show R = true by
            obtain ⟨n1, n2, n3, n4, n5, n6⟩ := HN.out
            rw [HD.out, List.any_eq_true]
            exact ⟨x, by rw [n5]; exact List.getElem_mem n4, HBB.out.symm⟩)
          go_wp2_with fail
          go_ret
          exact ⟨by rw [HRR.out]; rfl, grown_trans HX.out.1 HG3.out⟩
      · have d2 : decide (I < (n : Int)) = false := by simp; omega
        obtain rfl : k = n := by omega
        have HK := Lib.hid (And.intro hK (show R = false by
          rw [HD.out, List.any_eq_false]
          intro s hs
          have := hno.out s (by rw [← HX.out.2.2.1, List.take_length]; exact hs)
          simp [this]))
        clear hK hno hI hlt hk
        go_wp2_with fail
        go_ret
        exact ⟨by rw [HK.out.2]; rfl, grown_trans HX.out.1 HK.out.1⟩
set_option maxRecDepth 100000 in
set_option maxHeartbeats 1000000 in
theorem rbigB_is (w : World) (b : Bk) (hb : b.At w) (cs : Array Value) (hcs : cs = b.val) :
    Calls Tryd.prog 5 #[.agg cs] w fun e' w' => e' = .returned (.bool (bigBk b)) ∧ w.grownBy w' none := by
  obtain ⟨w1, hw1⟩ : ∃ w1, w.alloc (.cells cs 30) = w1 := ⟨_, rfl⟩
  have g1 : w.grownBy w1 none := by rw [← hw1]; exact World.grownBy_alloc _ _ none
  have b1 : Blk w1 w.heap.size 30 cs := by rw [← hw1]; exact Blk.new _ _ _
  obtain ⟨qv, hqv⟩ : ∃ z, z = b.q.val := ⟨_, rfl⟩
  have hqs : qv.size = 19 := by rw [hqv]; exact Qc.size hb.2.1
  have hcl : cs.toList = ([Value.int .i64 b.e, .int .i64 b.r] ++ (arrV .u8 b.P).toList) ++ (qv.toList ++ [.slice b.A b.T.length b.c, .slice b.A2 b.V.length b.c2]) := by rw [hcs, hqv]; simp [Bk.val]
  have hl18 : ([Value.int .i64 b.e, .int .i64 b.r] ++ (arrV .u8 b.P).toList).length = 18 := by simp [hb.1.1]
  have HK := Lib.hid (fun (V : World) (hV : w1.grownBy V none) => (show V.cell? ⟨w.heap.size, 37, none⟩ = some (.slice b.A b.T.length b.c) ∧ V.cell? ⟨w.heap.size, 38, none⟩ = some (.slice b.A2 b.V.length b.c2) ∧ V.rangeAt w.heap.size 18 qv.toList from by
    have r := range_blk0 (b1.grown hV (by simp))
    rw [hcl] at r
    refine ⟨?_, ?_, ?_⟩
    · have := r 37 (.slice b.A b.T.length b.c) (by rw [List.getElem?_append_right (by rw [hl18]; omega), hl18, List.getElem?_append_right (by simp [hqs])]; simp [hqs]); simpa using this
    · have := r 38 (.slice b.A2 b.V.length b.c2) (by rw [List.getElem?_append_right (by rw [hl18]; omega), hl18, List.getElem?_append_right (by simp [hqs])]; simp [hqs]); simpa using this
    · have := range_seg r; rw [hl18] at this; simpa using this))
  obtain ⟨n, hn⟩ : ∃ n, b.T.length = n := ⟨_, rfl⟩
  obtain ⟨m, hm⟩ : ∃ m, b.V.length = m := ⟨_, rfl⟩
  obtain ⟨R, hR⟩ : ∃ R, R = bigBk b := ⟨_, rfl⟩
  rw [hn, hm] at HK
  rw [← hR]
  obtain ⟨k1, k2, _⟩ := HK.out w1 (World.grownBy.refl _ _)
  have HW := Lib.hid hw1
  have HX := Lib.hid (And.intro g1 (And.intro (hb.2.2.1.1.grown g1) (And.intro hn (And.intro hR (And.intro hqs (And.intro hqv (hb.2.1)))))))
  clear g1 b1 hcl hl18 hqs hqv hn hR hw1 hcs
  by_cases h12 : 12 < (n : Int)
  · have d1 : decide (12 < (n : Int)) = true := by simp; omega
    have HN := Lib.hid (show R = true by rw [HX.out.2.2.2.1, bigBk, decide_eq_true (by have := HX.out.2.2.1; omega)]; rfl)
    clear h12 hb hm
    go_enter Tryd.func5, Tryd.ntmps5
    go_upto_region 1 with (fail)
    rw [HW.out]
    go_wp2_with fail
    go_ret
    exact ⟨by rw [HN.out]; rfl, HX.out.1⟩
  · have d1 : decide (12 < (n : Int)) = false := by simp; omega
    have h12' : ¬ 12 < b.T.length := by have := HX.out.2.2.1; omega
    by_cases h13 : 12 < (m : Int)
    · have d2 : decide (12 < (m : Int)) = true := by simp; omega
      have HN := Lib.hid (show R = true by rw [HX.out.2.2.2.1, bigBk, decide_eq_false h12', decide_eq_true (by omega)]; rfl)
      clear h12 h13 hb hm h12'
      go_enter Tryd.func5, Tryd.ntmps5
      go_upto_region 1 with (fail)
      rw [HW.out]
      go_wp2_with fail
      go_ret
      exact ⟨by rw [HN.out]; rfl, HX.out.1⟩
    · have d2 : decide (12 < (m : Int)) = false := by simp; omega
      have hn12 : n ≤ 12 := by omega
      have HD := Lib.hid (show R = (b.T.any (fun t => decide (100 < t.l.length)) || bigQc b.q) by rw [HX.out.2.2.2.1, bigBk, decide_eq_false h12', decide_eq_false (by omega)]; rfl)
      clear h12 h13 hb hm h12'
      go_enter Tryd.func5, Tryd.ntmps5
      go_upto_region 1 with (fail)
      rw [HW.out]
      go_wp2_with fail
      clear k1 k2
      go_loopw [18] (fun i wr => ∃ k : Nat, k ≤ n ∧ i = .int .i64 (k : Int) ∧ Hid (∀ t ∈ b.T.take k, ¬ 100 < t.l.length) ∧ w1.grownBy wr none) (fun i _ => n - (intOf i).toNat)
      case atStart => exact ⟨0, Nat.zero_le _, rfl, Lib.hid (by simp), World.grownBy.refl w1 none⟩
      case round =>
        obtain ⟨k, hk, hi, hno, hK⟩ := hrel
        obtain ⟨I, hI⟩ : ∃ I : Int, I = (k : Int) := ⟨_, rfl⟩
        rw [← hI] at hi
        subst hi
        rename World => wr
        by_cases hlt : k < n
        · have hlt' : k < b.T.length := by have := HX.out.2.2.1; omega
          have hne : b.T ≠ [] := by intro h; rw [h] at hlt'; simp at hlt'
          obtain ⟨bb, off, hA, hc⟩ := HX.out.2.1 hne
          have d3 : decide (I < (n : Int)) = true := by simp; omega
          have hIV : I < (n : Int) := by omega
          have hI0 : 0 ≤ I ∧ I < 1000 := by omega
          have hkI : I.toNat = k := by omega
          have r1 := range_kept (hc k hlt') hK
          obtain ⟨x, hxe⟩ : ∃ x, x = b.T[k] := ⟨_, rfl⟩
          rw [← hxe] at r1
          have c0 : wr.cell? ⟨bb, off + I.toNat, none⟩ = some (.slice x.B x.l.length x.c) := by rw [hkI]; have := r1 0 _ rfl; simpa using this
          rw [hA]
          have HN := Lib.hid (And.intro hno (And.intro hK (And.intro hI (And.intro hlt' (And.intro hxe hlt)))))
          obtain ⟨N, hN⟩ : ∃ N, N = x.l.length := ⟨_, rfl⟩
          rw [← hN] at c0
          have HNN := Lib.hid hN
          clear r1 hxe hc hne hI hkI hlt hK hno hA hN
          by_cases h100 : 100 < (N : Int)
          · have d4 : decide (100 < (N : Int)) = true := by simp; omega
            have HRR := Lib.hid (show R = true by
              obtain ⟨n1, n2, n3, n4, n5, n6⟩ := HN.out
              rw [HD.out, Bool.or_eq_true]
              exact .inl (List.any_eq_true.2 ⟨x, by rw [n5]; exact List.getElem_mem n4, decide_eq_true (by have := HNN.out; omega)⟩))
            clear h100
            go_wp2_with fail
            go_ret
            exact ⟨by rw [HRR.out]; rfl, grown_trans HX.out.1 HN.out.2.1⟩
          · have d4 : decide (100 < (N : Int)) = false := by simp; omega
            have HNO := Lib.hid h100
            clear h100
            go_wp2_with fail
            go_roundw
            case rel =>
              obtain ⟨n1, n2, n3, n4, n5, n6⟩ := HN.out
              refine ⟨k + 1, by omega, by rw [n3]; rfl, Lib.hid (fun s hs => ?_), n2⟩
              rw [← List.take_append_getElem n4, List.mem_append] at hs
              rcases hs with hs | hs
              · exact n1.out s hs
              · simp at hs; rw [hs, ← n5]; have h1 := HNO.out; have h2 := HNN.out; omega
            case measure => obtain ⟨n1, n2, n3, n4, n5, n6⟩ := HN.out; simp [intOf]; omega
        · have d3 : decide (I < (n : Int)) = false := by simp; omega
          obtain rfl : k = n := by omega
          obtain ⟨_, _, r18⟩ := HK.out wr hK
          have HRR := Lib.hid (show R = bigQc b.q by
            rw [HD.out, List.any_eq_false.2 ?_, Bool.false_or]
            intro s hs
            have := hno.out s (by rw [← HX.out.2.2.1, List.take_length]; exact hs)
            simpa using this)
          have HQ := Lib.hid (rbigQ_is wr b.q (HX.out.2.2.2.2.2.2.grown (grown_trans HX.out.1 hK)) qv HX.out.2.2.2.2.2.1)
          have HR18 := Lib.hid r18
          have HK2 := Lib.hid hK
          clear hK hno hI hlt hk r18
          go_wp2_with (refine wpList_load_mid rfl 26 _ rfl w.heap.size 18 rfl qv.toList _ HR18.out Tryd.underlying26 rfl (by rw [Array.length_toList, HX.out.2.2.2.2.1]; exact sz_QCb) ?_; rw [Array.toArray_toList])
          refine HQ.out.mono ?_
          rintro e3 W3 ⟨rfl, g3⟩
          have HG3 := Lib.hid g3
          clear g3
          go_wp2_with fail
          go_ret
          exact ⟨by rw [HRR.out]; rfl, grown_trans HX.out.1 (grown_trans HK2.out HG3.out)⟩
end Go.Proofs.YtebnebajedlhlaaDoor
