/-
  PoolOnce, walked.
-/
import Derived.Test.YtnhjokcjdjfijaaDoorPlTak
namespace Go.Proofs.YtnhjokcjdjfijaaDoor
open Go.RowKit

theorem addE_zero {L : List (List UInt8)} {x : List UInt8} (h : addE L x = 0) : 1 ≤ x.length ∧ x.length ≤ 16 ∧ isIn L x = false ∧ L.length < 16 ∧ addL L x = L ++ [x] := by
  have h0 := h
  rw [addE] at h
  repeat' split at h
  all_goals first
    | omega
    | (rename_i h1 h2 h3; exact ⟨by omega, by omega, by simpa using h2, by omega, by rw [addL, if_pos h0]⟩)
theorem addE_cases (L : List (List UInt8)) (x : List UInt8) : addE L x = 0 ∨ (addE L x ≠ 0 ∧ addL L x = L ∧ (addE L x = 4 ∨ addE L x = 17 ∨ addE L x = 8)) := by
  by_cases h : addE L x = 0
  · exact .inl h
  · refine .inr ⟨h, by rw [addL, if_neg h], ?_⟩
    by_cases h1 : x.length < 1 ∨ 16 < x.length
    · rw [addE, if_pos h1]; simp
    · by_cases h2 : isIn L x = true
      · rw [addE, if_neg h1, if_pos h2]; simp
      · by_cases h3 : 16 ≤ L.length
        · rw [addE, if_neg h1, if_neg h2, if_pos h3]; simp
        · exact absurd (by rw [addE, if_neg h1, if_neg h2, if_neg h3]) h
theorem dropL_one {L : List (List UInt8)} (h : L.Nodup) {q : Nat} {y : List UInt8} (hy : L[q]? = some y) : dropL L [y] = L.take q ++ L.drop (q + 1) := by
  obtain ⟨hq, rfl⟩ := List.getElem?_eq_some_iff.1 hy
  have hL : L = L.take q ++ (L[q] :: L.drop (q + 1)) := by rw [List.getElem_cons_drop, List.take_append_drop]
  have hnd := h
  rw [hL, List.nodup_append, List.nodup_cons] at hnd
  obtain ⟨_, ⟨n1, _⟩, n2⟩ := hnd
  have h1 : dropL L [L[q]] = dropL (L.take q) [L[q]] ++ dropL (L[q] :: L.drop (q + 1)) [L[q]] := by
    rw [dropL, dropL, dropL, ← List.filter_append, ← hL]
  rw [h1]
  congr 1
  · rw [dropL, List.filter_eq_self]
    intro z hz
    have := n2 z hz L[q] List.mem_cons_self
    rw [isIn_mem]; simp [this]
  · rw [dropL, List.filter_cons, isIn_mem]
    simp only [List.mem_singleton, decide_true, Bool.not_true, Bool.false_eq_true, if_false]
    rw [List.filter_eq_self]
    intro z hz
    have : z ≠ L[q] := by rintro rfl; exact n1 hz
    rw [isIn_mem]; simp [this]
/-- A slice's value that stands for bytes of a world. -/
def ElemOf (w : World) (z : Value × List UInt8) : Prop := ∃ B cB, z.1 = .slice B z.2.length cB ∧ BytesAt w B z.2

section
variable {P : Program} (w : World)
theorem step_append_src {ops : Array Oper} {o : Oper} {a : Act} {K : Act → World → Prop} {Q : Exit → Act → World → Prop} {E : Prop} (hgd : o.guard = none) (s x : Operand) (t : TypeId)
    (ho : o.op = .call { callee := .builtin .append, args := #[s, x], argTypes := #[t, t] })
    (base : Nat) (e : TypeId) (i : TypeInfo) (z : Value) (bytes : Nat) (ht : P.underlying t = some (.slice e)) (hi : P.info? e = some i) (hz : i.zero = some z)
    (hsize : i.size = 1) (hby : i.bytes = bytes) (hzs : z.cells.size = 1)
    (v : Value) (n : Nat) (xs : List Value) (hs : a.eval s = v) (hown : w.ownsRow base e 1 v n xs)
    (ad : Addr) (m c : Nat) (news : List Value) (hx : a.eval x = .slice (some ad) m c) (hl : news.length = m) (hnews : ∀ j u, news[j]? = some u → w.cell? (ad.add j) = some u) (h1 : ∀ u ∈ news, u.oneCell' = true) (h63 : n + m ≤ 1000000000) (hb : bytes ≤ 100) (hbase : base ≤ w.heap.size)
    (h : ∀ A' cap' w', w'.ownsRow base e 1 (.slice A' (n + m) cap') (n + m) (xs ++ news) → w.grownBy w' v.ownBlock → ((Value.slice A' (n + m) cap').ownBlock = v.ownBlock ∨ (Value.slice A' (n + m) cap').ownBlock = some w.heap.size) → K (a.put o.dst (.slice A' (n + m) cap')) w') :
    if Region.wanted o (yielded ops a.tmps) = true then Oper.wp P o a w K Q else E := by
  have hw : Region.wanted o (yielded ops a.tmps) = true := by simp [Region.wanted, hgd]
  rw [if_pos hw]
  obtain ⟨v', w', hrun, h2, h3, _, h5⟩ := run_append_own_at (P := P) w base t o.type e i z 1 bytes ht hi hz hsize hby hzs (by omega) v n xs hown ad m c news (by simpa using hl) hnews h1 (by unfold maxLen; omega)
    (Nat.le_trans (Nat.mul_le_mul h63 hb) (by omega)) hbase
  obtain ⟨A', cap', rfl⟩ := own_slice w' h2
  unfold Oper.wp execOp
  simp only [ho, resolve, invoke, builtin, Sem.run_bind, Sem.run_pure, Result.andThen_ok, List.map_toArray, List.map_cons, List.map_nil, hs, hx, hrun]
  exact h A' cap' w' h2 h3 h5
end
theorem made_here {w : World} {base : Nat} (h : base ≤ w.heap.size) : (w.alloc (.cells #[] 30)).ownsRow base 30 1 (.slice (some ⟨w.heap.size, 0, none⟩) 0 0) 0 [] := World.ownsRow_made w #[] 0 h (Nat.zero_le _) rfl
theorem made_here1 {w : World} {base : Nat} {o : Obj} (h : base ≤ w.heap.size) : ((w.alloc o).alloc (.cells #[] 30)).ownsRow base 30 1 (.slice (some ⟨w.heap.size + 1, 0, none⟩) 0 0) 0 [] := by
  have := made_here (w := w.alloc o) (base := base) (by rw [World.size_alloc]; omega)
  rw [World.size_alloc] at this
  exact this
theorem grown_alloc2 (w : World) (o o' : Obj) : w.grownBy ((w.alloc o).alloc o') none := grown_trans (World.grownBy_alloc _ _ none) (World.grownBy_alloc _ _ none)
/-- A new cell that no row owns stays. -/
theorem cell_new_own {W W' : World} {base n c : Nat} {A : Option Addr} {xs : List Value} {u : Value} {t : TypeId} (hown : W.ownsRow base 30 1 (.slice A n c) n xs) (hg : (W.alloc (.cells #[u] t)).grownBy W' (Value.slice A n c).ownBlock) : W'.cell? ⟨W.heap.size, 0, none⟩ = some u :=
  hg.cell ((Blk.new W t #[u]).cell 0) (fun e => by have := (hown.lt _ e.symm).2; simp only at this; omega)
theorem cell_old_own {W W' : World} {n c : Nat} {A : Option Addr} {u : Value} {b : Nat} (hc : W.cell? ⟨b, 0, none⟩ = some u) (hg : W.grownBy W' (Value.slice A n c).ownBlock) (hb : ∀ k, (Value.slice A n c).ownBlock = some k → k ≠ b) : W'.cell? ⟨b, 0, none⟩ = some u :=
  hg.cell hc (fun e => hb _ e.symm rfl)

theorem once_cell1 {w w4 : World} {hdr : Value} {A4 : Option Addr} {q c4 : Nat} (hg : (((w.alloc (.cells #[] 30)).alloc (.cells #[hdr] 30)).drew).grownBy w4 (Value.slice (some ⟨w.heap.size, 0, none⟩) 0 0).ownBlock)
    (hat : (Value.slice A4 q c4).ownBlock = (Value.slice (some ⟨w.heap.size, 0, none⟩) 0 0).ownBlock ∨ (Value.slice A4 q c4).ownBlock = some (((w.alloc (.cells #[] 30)).alloc (.cells #[hdr] 30)).drew).heap.size) :
    w4.cell? ⟨w.heap.size + 1, 0, none⟩ = some hdr ∧ ∀ k, (Value.slice A4 q c4).ownBlock = some k → k ≠ w.heap.size + 1 := by
  refine ⟨hg.cell (a := ⟨w.heap.size + 1, 0, none⟩) ?_ (by simp [Value.ownBlock]), fun k hk => ?_⟩
  · have := (Blk.new (w.alloc (.cells #[] 30)) 30 #[hdr]).cell 0
    rw [World.size_alloc] at this
    exact this
  · rw [hk] at hat
    rcases hat with h | h
    · have : k = w.heap.size := by simpa [Value.ownBlock] using h
      omega
    · have : k = w.heap.size + 1 + 1 := by simpa [World.drew] using h
      omega
theorem once_cell2 {w w4 : World} {hdr : Value} {A4 : Option Addr} {q c4 : Nat} (hg : (((w.alloc (.cells #[hdr] 30)).alloc (.cells #[] 30)).drew).grownBy w4 (Value.slice (some ⟨w.heap.size + 1, 0, none⟩) 0 0).ownBlock)
    (hat : (Value.slice A4 q c4).ownBlock = (Value.slice (some ⟨w.heap.size + 1, 0, none⟩) 0 0).ownBlock ∨ (Value.slice A4 q c4).ownBlock = some (((w.alloc (.cells #[hdr] 30)).alloc (.cells #[] 30)).drew).heap.size) :
    w4.cell? ⟨w.heap.size, 0, none⟩ = some hdr ∧ ∀ k, (Value.slice A4 q c4).ownBlock = some k → k ≠ w.heap.size := by
  refine ⟨hg.cell (a := ⟨w.heap.size, 0, none⟩) (((Blk.new w 30 #[hdr]).alloc _).cell 0) (by simp [Value.ownBlock]), fun k hk => ?_⟩
  rw [hk] at hat
  rcases hat with h | h
  · have : k = w.heap.size + 1 := by simpa [Value.ownBlock] using h
    omega
  · have : k = w.heap.size + 1 + 1 := by simpa [World.drew] using h
    omega

set_option maxRecDepth 100000 in
set_option maxHeartbeats 4000000 in
theorem once_any (w : World) (E : Nat → Addr) (he : ErrVars [3, 7, 16] w w.heap.size E) (A : Option Addr) (n c : Nat) (ps : List (List UInt8)) (hn : ps.length = n) (hp : LsAt w A ps) (x : Int) : Calls Tryd.prog 4 #[.slice A n c, .int .i64 x] w fun e w' => e = .returned (.bool true) ∧ Below w.heap.size w w' := by
  have HE := Lib.hid he
  have HA := Lib.hid (alive_any w w.heap.size E he (Nat.le_refl _))
  have HY := Lib.hid (And.intro hn hp.lsIn)
  obtain ⟨i0, hi0, hz0, hz1, hz2⟩ := info_parts lst_info
  have HI := Lib.hid (And.intro hi0 (And.intro hz0 (And.intro hz1 hz2)))
  clear he hn hp hi0 hz0 hz1 hz2
  go_enter Tryd.func4, Tryd.ntmps4
  go_wp2_with fail
  refine HA.out.mono ?_
  rintro e w1 ⟨rfl, k1⟩
  have K1 := Lib.hid (Kept.of_grown (F := fun k => w.heap.size ≤ k) k1 fun _ e => by cases e)
  clear k1
  by_cases h30 : 30 < n
  · have d1 : decide ((30 : Int) < (n : Int)) = true := by simp; omega
    go_wp2_with fail
    go_ret
    exact ⟨rfl, K1.out.below (Nat.le_refl _) (fun _ h => h)⟩
  have d0 : decide ((30 : Int) < (n : Int)) = false := by simp; omega
  have hn30 : n ≤ 30 := by omega
  clear h30
  go_wp2_with fail
  refine (pool_new _).mono ?_
  rintro e w2 ⟨rfl, rfl⟩
  obtain ⟨p, hp⟩ : ∃ p, w1.heap.size = p := ⟨_, rfl⟩
  obtain ⟨w2, hw2⟩ : ∃ w2, w1.alloc (.cells #[.slice none 0 0] 58) = w2 := ⟨_, rfl⟩
  have H2 : Hid (PoolIs (w2.alloc (.cells #[] 30)) (fun k => k = p) p [] ∧ Kept (fun k => w.heap.size ≤ k) w (w2.alloc (.cells #[] 30)) ∧ w.heap.size ≤ p ∧ w2.heap.size = p + 1) := Lib.hid (by
    have hg := Kept.of_grown (F := fun _ => False) (World.grownBy_alloc w2 (.cells #[] 30) none) fun _ e => by cases e
    rw [← hw2] at hg ⊢
    rw [← hp]
    exact ⟨(PoolIs.new w1 (S := fun k => k = w1.heap.size) rfl).kept hg (fun _ h => h.elim), (K1.out.next (Kept.of_grown (F := fun k => w.heap.size ≤ k) (World.grownBy_alloc w1 (.cells #[.slice none 0 0] 58) none) fun _ e => by cases e) (fun _ _ h => h)).next hg (fun _ _ h => h.elim), K1.out.size, by simp⟩)
  have hst := World.ownsRow_made (base := w.heap.size) (e := 30) (size := 1) w2 #[] 0 (by have := H2.out; omega) (Nat.zero_le _) rfl
  have HS := Lib.hid hst
  rw [hw2, hp]
  clear hw2 hp hst
  go_wp2_with fail
  go_loopw [6, 20] (fun v i wr => ∃ (k m : Nat) (S : Nat → Prop) (L : List (List UInt8)) (At : Option Addr) (ct : Nat) (zs : List (Value × List UInt8)), k ≤ n ∧ i = .int .i64 (k : Int) ∧ v = .slice At m ct ∧ m = L.length ∧ PoolIs wr S p L ∧ (∀ k, S k → w.heap.size ≤ k ∧ k < wr.heap.size) ∧ (∀ a, At = some a → ¬ S a.block) ∧ wr.ownsRow w.heap.size 30 1 (.slice At m ct) m (zs.map (·.1)) ∧ zs.map (·.2) = L ∧ (∀ z ∈ zs, ElemOf w z) ∧ Fine L ∧ (∀ y ∈ L, 1 ≤ y.length) ∧ Kept (fun k => w.heap.size ≤ k) w wr) (fun _ i _ => n - (intOf i).toNat)
  case atStart => exact ⟨0, 0, fun k => k = p, [], _, _, [], by omega, rfl, rfl, rfl, H2.out.1, fun k hk => by subst hk; have := H2.out; rw [World.size_alloc]; omega, fun a e => by injection e with e; subst e; have := H2.out.2.2.2; show ¬ w2.heap.size = p; omega, HS.out, rfl, (fun z hz => by cases hz), Fine.nil, (fun y hy => by cases hy), H2.out.2.1⟩
  case round =>
    obtain ⟨k, m, S, L, At, ct, zs, hk, hi, hv, hm, hP, hS, hAt, hown, hs, hel, hF, hne, hK⟩ := hrel
    obtain ⟨I, hI⟩ : ∃ I : Int, I = (k : Int) := ⟨_, rfl⟩
    rw [← hI] at hi
    subst hi hv
    by_cases hlt : k < n
    · have d1 : decide (I < (n : Int)) = true := by simp; omega
      have hkx : k < ps.length := by have := HY.out.1; omega
      have hlsK : LsIn wr (fun b => b < w.heap.size) A ps := HY.out.2.kept hK (fun k h1 h2 => by omega)
      obtain ⟨b, off, rfl, _, hc⟩ := hlsK (by rintro rfl; simp at hkx)
      obtain ⟨B, d, hcell, hB, hBl⟩ := hc k hkx
      have hBw : BytesAt w B ps[k] := by
        obtain ⟨b', off', e', _, hc'⟩ := HY.out.2 (by rintro rfl; simp at hkx)
        injection e' with e'
        injection e' with e1 e2
        subst e1 e2
        obtain ⟨B', d', hcell', hB', _⟩ := hc' k hkx
        have hkc := hK.cell hcell' (fun h => by
          have h1 : b < w.heap.size := World.block_lt_of_cell? w _ hcell'
          have h : w.heap.size ≤ b := h
          omega)
        rw [hcell] at hkc
        injection hkc with hkc
        injection hkc with e1 e2 e3
        subst e1
        exact hB'
      have hkI : I.toNat = k := by omega
      generalize ps[k] = y at *
      rw [← hkI] at hcell
      have hI2 : 0 ≤ I ∧ I < (n : Int) := by omega
      have hm16 : m ≤ 16 := by have := hF.1; omega
      have HN := Lib.hid (And.intro hI (And.intro hlt (And.intro hF (And.intro hK (And.intro hm (And.intro hS (And.intro hAt (And.intro hown (And.intro hs (And.intro hel (And.intro hne hBw)))))))))))
      by_cases h100 : 100 < y.length
      · have d2 : decide ((100 : Int) < (y.length : Int)) = true := by simp; omega
        clear hc hI hlt hkI hkx hP hF hK hk h100 hB hlsK hS hAt hown hs hel hne hBl hBw hm
        go_wp2_with fail
        go_ret
        exact ⟨rfl, HN.out.2.2.2.1.below (Nat.le_refl _) (fun _ h => h)⟩
      · have d2 : decide ((100 : Int) < (y.length : Int)) = false := by simp; omega
        have HC := Lib.hid (pool_add wr S p L w.heap.size E hP (by have := hF.1; omega) B d y hB (HE.out.kept hK (fun k h => h)) (fun k h => (hS k h).1))
        clear hc hI hlt hkI hkx hP hF hK hk h100 hB hlsK hS hAt hown hs hel hne hBl hBw hm
        go_wp2_with fail
        refine HC.out.mono ?_
        rintro e w3 ⟨rfl, h3, k3⟩
        have H3 := Lib.hid (And.intro h3 k3)
        clear h3 k3
        rcases addE_cases L y with h0 | ⟨h0, hL, hE⟩
        · rw [h0, evOf]
          have hO3 : w3.ownsRow w.heap.size 30 1 (.slice At m ct) m (zs.map (·.1)) := by
            obtain ⟨hI, hlt, hF, hK, hm, hS, hAt, hown, _⟩ := HN.out
            exact own_kept hown H3.out.2 (fun k hk h => by obtain ⟨a, e1, e2⟩ := own_at hk; subst e2; exact hAt a e1 h)
          have HO3 := Lib.hid hO3
          have H0 := Lib.hid h0
          clear hO3 h0
          have hw3 : w.heap.size ≤ w3.heap.size := by have := HN.out.2.2.2.1.size; have := H3.out.2.size; omega
          go_wp2_with (at_builtin; refine wpList_push_at rfl _ _ 31 rfl w.heap.size 30 30 i0 (.slice none 0 0) 24 Tryd.underlying31 HI.out.1 HI.out.2.1 HI.out.2.2.1 HI.out.2.2.2 rfl At m ct _ rfl HO3.out (.slice B y.length d) rfl rfl (by omega) (by omega) hw3 ?_; intro A4 c4 w4 hown4 hg4 hat4)
          have H4 := Lib.hid (And.intro hown4 (And.intro hg4 hat4))
          clear hown4 hg4 hat4
          go_wp2_with fail
          go_roundw
          case rel =>
            obtain ⟨hI, hlt, hF, hK, hm, hS, hAt, hown, hs, hel, hne, hBw⟩ := HN.out
            obtain ⟨z1, z2, z3, z4, z5⟩ := addE_zero H0.out
            obtain ⟨hown4, hg4, hat4⟩ := H4.out
            have hs3 := H3.out.2.size
            have hAw : ∀ a, At = some a → a.block < w3.heap.size := fun a e => by subst e; exact (HO3.out.lt a.block rfl).2
            have hFF := hF.add y
            rw [z5] at hFF
            have h3' := H3.out.1
            rw [z5] at h3'
            have k4 : Kept (atB At) w3 w4 := ((Kept.refl _ w3).alloc (.cells #[.slice B y.length d] 30)).next (Kept.of_grown (F := atB At) hg4 (fun _ e => own_at e)) (fun _ _ h => h)
            have hs4 := k4.size
            have hnS : ∀ k, atB At k → ¬ upTo S wr.heap.size w3.heap.size k := fun k ⟨a, e1, e2⟩ h => by
              subst e2
              rcases h with h | ⟨h, _⟩
              · exact hAt a e1 h
              · have := (hown.lt a.block (by rw [e1]; rfl)).2; omega
            refine ⟨k + 1, m + 1, upTo S wr.heap.size w3.heap.size, L ++ [y], A4, c4, zs ++ [(.slice B y.length d, y)], by omega, by rw [hI]; rfl, rfl, by rw [List.length_append, hm]; rfl, h3'.kept k4 hnS, fun k hk => ?_, fun a e hk => ?_, by rw [List.map_append]; exact hown4, by rw [List.map_append, hs]; rfl, fun z hz => ?_, hFF, fun z hz => ?_, ?_⟩
            · have h1 := hK.size
              rcases hk with hk | hk
              · have := hS k hk; omega
              · omega
            · rcases hat4 with h | h
              · have h1 : (Value.slice At m ct).ownBlock = some a.block := by rw [← h, e]; rfl
                exact hnS _ (own_at h1) hk
              · have e1 : a.block = w3.heap.size + 1 := by rw [e] at h; simpa [Value.ownBlock] using h
                rcases hk with hk | hk
                · have := hS _ hk; omega
                · omega
            · rcases List.mem_append.1 hz with hz | hz
              · exact hel z hz
              · rw [List.mem_singleton.1 hz]; exact ⟨B, d, rfl, hBw⟩
            · rcases List.mem_append.1 hz with hz | hz
              · exact hne z hz
              · rw [List.mem_singleton.1 hz]; exact z1
            · exact (hK.next H3.out.2 (fun k _ h => (hS k h).1)).next k4 (fun k _ ⟨a, e1, e2⟩ => by subst e2; exact (hown.lt a.block (by rw [e1]; rfl)).1)
          case measure => obtain ⟨hI, hlt, _⟩ := HN.out; simp [intOf]; omega
        · have hev : evOf E (addE L y) = errV (E (addE L y - 1)) := by
            rcases hE with h | h | h <;> rw [h] <;> rfl
          rw [hev]
          have H0 := Lib.hid (And.intro hL h0)
          clear hev hE h0 hL
          go_wp2_with fail
          go_roundw
          case rel =>
            obtain ⟨hI, hlt, hF, hK, hm, hS, hAt, hown, hs, hel, hne, hBw⟩ := HN.out
            have h3' := H3.out.1
            rw [H0.out.1] at h3'
            have hs3 := H3.out.2.size
            have hKs := hK.size
            refine ⟨k + 1, m, upTo S wr.heap.size w3.heap.size, L, At, ct, zs, by omega, by rw [hI]; rfl, rfl, hm, h3', fun k hk => ?_, fun a e hk => ?_, own_kept hown H3.out.2 (fun k hk h => by obtain ⟨a, e1, e2⟩ := own_at hk; subst e2; exact hAt a e1 h), hs, hel, hF, hne, hK.next H3.out.2 (fun k _ h => (hS k h).1)⟩
            · rcases hk with hk | hk
              · have := hS k hk; omega
              · omega
            · rcases hk with hk | ⟨hk, _⟩
              · exact hAt a e hk
              · have := (hown.lt a.block (by rw [e]; rfl)).2; omega
          case measure => obtain ⟨hI, hlt, _⟩ := HN.out; simp [intOf]; omega
    · have d1 : decide (I < (n : Int)) = false := by simp; omega
      have HN := Lib.hid (And.intro hP (And.intro hS (And.intro hAt (And.intro hown (And.intro hs (And.intro hel (And.intro hF (And.intro hne hK))))))))
      have HM := Lib.hid hm
      have hm16 : m ≤ 16 := by have := hF.1; omega
      have hsm : ∀ y ∈ L, y.length ≤ 100000 := fun y hy => by have := hF.2.1 y hy; omega
      have htl : takeL 100 [] L = L := by rw [takeL, dropL_none, List.take_of_length_le]; have := hF.1; show L.length ≤ 100; omega
      have HC := Lib.hid (And.intro (pool_len wr S p L hP) (And.intro (pool_take wr S (fun _ => False) p L hP (by have := hF.1; omega) hsm 100 none 0 0 [] rfl (by omega) (fun h => absurd rfl h) (fun _ h => h.elim)) htl))
      clear hI hlt hk hP hS hAt hown hs hel hF hne hK hm htl hsm
      go_wp2_with fail
      refine HC.out.1.mono ?_
      rintro e w3 ⟨rfl, rfl⟩
      rw [← HM.out]
      go_wp2_with fail
      refine HC.out.2.1.mono ?_
      rintro e w5 ⟨Au, cu, zu, rfl, hru, hsu, k5⟩
      rw [HC.out.2.2] at hsu hru
      rw [HC.out.2.2, ← HM.out]
      have hlsu := hru.ls
      rw [hsu] at hlsu
      have hel' : ∀ W, Kept (fun k => w.heap.size ≤ k) w W → ∀ z ∈ zs, ∃ B cB, z.1 = .slice B z.2.length cB ∧ BytesAt W B z.2 := fun W hW z hz => by
        obtain ⟨B, cB, e1, e2⟩ := HN.out.2.2.2.2.2.1 z hz
        refine ⟨B, cB, e1, e2.kept' hW (fun ad e hne h => ?_)⟩
        obtain ⟨ad', e', hc⟩ := e2 hne
        rw [e] at e'
        injection e' with e'
        subst e'
        have := World.block_lt_of_cell? w _ (hc 0 (List.length_pos_iff.2 hne))
        rw [block_add] at this
        omega
      have HEL := Lib.hid hel'
      have hlst : ∀ W, w3.grownBy W none → LsAt W At L ∧ W.ownsRow w.heap.size 30 1 (.slice At m ct) m (zs.map (·.1)) := fun W hW => by
        have hKW := Kept.of_grown (F := fun _ => False) hW fun _ e => by cases e
        have ho := own_kept HN.out.2.2.2.1 hKW (fun _ _ h => h)
        have h := ls_own ho (hel' W (HN.out.2.2.2.2.2.2.2.2.next hKW (fun _ _ h => h.elim)))
        rw [HN.out.2.2.2.2.1] at h
        exact ⟨h, ho⟩
      have HLS := Lib.hid hlst
      have H5 := Lib.hid (And.intro hlsu k5)
      clear hru hsu hlsu hel' hlst k5
      go_wp2_with fail
      refine (samelists_is w5 Au At cu ct m L HM.out.symm (by omega) H5.out.1 (HLS.out w5 H5.out.2).1).mono ?_
      rintro e w6 ⟨rfl, k6⟩
      have K6 := Lib.hid (grown_trans H5.out.2 k6)
      clear k6
      by_cases hm0 : m = 0
      · subst hm0
        go_wp2_with fail
        go_ret
        exact ⟨rfl, (HN.out.2.2.2.2.2.2.2.2.next (Kept.of_grown (F := fun _ => False) K6.out fun _ e => by cases e) (fun _ _ h => h.elim)).below (Nat.le_refl _) (fun _ h => h)⟩
      · have dm0 : ((m : Int) == 0) = false := beq_eq_false_iff_ne.2 (by omega)
        have dm1 : ¬ (m : Int) = 0 := by omega
        obtain ⟨u1, q1, a1, a2, a3, a4, a5, a6, a7, a8, a9⟩ := u64_mod x (m : Int) (by omega)
        have hum : IntKind.u64.wrap (m : Int) = (m : Int) := by rw [IntKind.wrap_u64]; omega
        have hmm : (m : Int) % 18446744073709551616 = (m : Int) := by omega
        obtain ⟨gt, hgt⟩ : ∃ gt, At = some ⟨gt, 0, none⟩ := by
          obtain ⟨g, cap, hv⟩ := Joins.ownsRow_form HN.out.2.2.2.1 (by omega)
          injection hv with h1
          exact ⟨g, h1⟩
        subst hgt
        have hzl : zs.length = m := by have := HN.out.2.2.2.1.1; simpa using this
        obtain ⟨z, hz⟩ : ∃ z, zs[q1.toNat]? = some z := ⟨_, List.getElem?_eq_getElem (by omega)⟩
        obtain ⟨B, d, hz1, hzB⟩ := HN.out.2.2.2.2.2.1 z (List.mem_of_getElem? hz)
        obtain ⟨y, hy⟩ : ∃ y, y = z.2 := ⟨_, rfl⟩
        rw [← hy] at hz1 hzB
        have hLy : L[q1.toNat]? = some y := by rw [← HN.out.2.2.2.2.1, List.getElem?_map, hz, hy]; rfl
        have hyF : 1 ≤ y.length ∧ y.length ≤ 16 := ⟨HN.out.2.2.2.2.2.2.2.1 y (List.mem_of_getElem? hLy), HN.out.2.2.2.2.2.2.1.2.1 y (List.mem_of_getElem? hLy)⟩
        have hD := dropL_one HN.out.2.2.2.2.2.2.1.2.2 hLy
        have hDl : (dropL L [y]).length + 1 = m := by
          rw [hD, List.length_append, List.length_take, List.length_drop]
          have := HM.out
          omega
        have hDi : isIn (dropL L [y]) y = false := by rw [isIn_drop]; simp [isIn]
        have hcellAt : ∀ W : World, W.ownsRow w.heap.size 30 1 (.slice (some ⟨gt, 0, none⟩) m ct) m (zs.map (·.1)) → W.cell? ⟨gt, q1.toNat, none⟩ = some (.slice B y.length d) := fun W hW => own_cell hW (by rw [List.getElem?_map, hz, ← hz1]; rfl)
        have hBl : ∀ ad, B = some ad → y ≠ [] → ad.block < w.heap.size := fun ad e hne => by
          obtain ⟨ad', e', hc⟩ := hzB hne
          rw [e] at e'
          injection e' with e'
          subst e'
          have := World.block_lt_of_cell? w _ (hc 0 (List.length_pos_iff.2 hne))
          rwa [block_add] at this
        have hBW : ∀ W, Kept (fun k => w.heap.size ≤ k) w W → BytesAt W B y := fun W hW => hzB.kept' hW (fun ad e hne h => by have := hBl ad e hne; omega)
        have hnS : ∀ k, (Value.slice (some ⟨gt, 0, none⟩) m ct).ownBlock = some k → ¬ S k := fun k hk h => by
          obtain ⟨a, e1, e2⟩ := own_at hk
          subst e2
          exact HN.out.2.2.1 a e1 h
        have K36 := Kept.of_grown (F := fun _ => False) K6.out fun _ e => by cases e
        have o6 := own_kept HN.out.2.2.2.1 K36 (fun _ _ h => h)
        have c6 := hcellAt w6 o6
        have kw6 := HN.out.2.2.2.2.2.2.2.2.next K36 (fun _ _ h => h.elim)
        have g7 := World.grownBy_alloc w6 (.cells #[.slice B y.length d] 30) none
        have K67 := Kept.of_grown (F := fun _ => False) g7 fun _ e => by cases e
        have s36 := K36.size
        have hD7 : LsIn (w6.alloc (.cells #[.slice B y.length d] 30)) (fun k => k < w.heap.size ∨ k = w6.heap.size) (some ⟨w6.heap.size, 0, none⟩) [y] := lsIn_one (hBW w6 kw6) _ (fun ad e hne => .inl (hBl ad e hne)) (.inr rfl)
        have hC70 := pool_drop _ S (fun k => k < w.heap.size ∨ k = w6.heap.size) p L ((HN.out.1.kept K36 (fun _ h => h.elim)).kept K67 (fun _ h => h.elim)) (by have := HM.out; omega) (fun k hk => by have := HN.out.2.1 k hk; rw [World.size_alloc]; omega) (some ⟨w6.heap.size, 0, none⟩) 1 1 [y] rfl (by omega) hD7 (fun k h1 h2 => by have := HN.out.2.1 k h2; omega)
        have hone : (L.length : Int) - ((dropL L [y]).length : Int) = 1 := by have := HM.out; omega
        have hC7 : Calls Tryd.prog 18 #[.pointer (some ⟨p, 0, none⟩), .slice (some ⟨w6.heap.size, 0, none⟩) 1 1] (w6.alloc (.cells #[.slice B y.length d] 30)) (fun e w' => e = .returned (.int .i64 1) ∧ PoolIs w' S p (dropL L [y]) ∧ Kept S (w6.alloc (.cells #[.slice B y.length d] 30)) w') := hC70.mono fun e w' ⟨h1, h2, h3⟩ => ⟨by rw [← hone]; exact h1, h2, h3⟩
        have HC7 := Lib.hid (And.intro hC7 (And.intro (own_kept o6 K67 (fun _ _ h => h)) (kw6.next K67 (fun _ _ h => h.elim))))
        have HZ := Lib.hid (And.intro hz (And.intro hz1 (And.intro hLy (And.intro hyF (And.intro hD (And.intro hDl (And.intro hDi (And.intro hBl hnS))))))))
        have HCA := Lib.hid (And.intro hcellAt hBW)
        clear hz hz1 hzB hy hLy hyF hD hDl hDi hcellAt hBl hBW hnS K36 o6 kw6 g7 K67 s36 hD7 hC70 hC7 hone hzl
        go_wp2_with fail
        refine HC7.out.1.mono ?_
        rintro e w8 ⟨rfl, h8, k8⟩
        have o8 := own_kept HC7.out.2.1 k8 HZ.out.2.2.2.2.2.2.2.2
        have c8 := HCA.out.1 w8 o8
        have kw8 := HC7.out.2.2.next k8 (fun k _ h => (HN.out.2.1 k h).1)
        have hC8 := pool_has w8 S p _ h8 (by have := HZ.out.2.2.2.2.2.1; omega) B d y (HCA.out.2 w8 kw8)
        rw [HZ.out.2.2.2.2.2.2.1] at hC8
        have H8 := Lib.hid (And.intro h8 (And.intro o8 (And.intro kw8 hC8)))
        clear h8 k8 o8 kw8 hC8 c6
        go_wp2_with fail
        refine H8.out.2.2.2.mono ?_
        rintro e w9 ⟨rfl, k9⟩
        have K9 := Kept.of_grown (F := fun _ => False) k9 fun _ e => by cases e
        have o9 := own_kept H8.out.2.1 K9 (fun _ _ h => h)
        have c9 := HCA.out.1 w9 o9
        have kw9 := H8.out.2.2.1.next K9 (fun _ _ h => h.elim)
        have hC90 := pool_add w9 S p _ w.heap.size E (H8.out.1.kept K9 (fun _ h => h.elim)) (by have := HZ.out.2.2.2.2.2.1; omega) B d y (HCA.out.2 w9 kw9) (HE.out.kept kw9 (fun k h => h)) (fun k h => (HN.out.2.1 k h).1)
        have hok := addE_ok (L := dropL L [y]) (x := y) HZ.out.2.2.2.1.1 HZ.out.2.2.2.1.2 HZ.out.2.2.2.2.2.2.1 (by have := HZ.out.2.2.2.2.2.1; omega)
        have hC9 : Calls Tryd.prog 12 #[.pointer (some ⟨p, 0, none⟩), .slice B y.length d] w9 (fun e w' => e = .returned .nilIface ∧ PoolIs w' (upTo S w9.heap.size w'.heap.size) p (dropL L [y] ++ [y]) ∧ Kept S w9 w') := hC90.mono fun e w' ⟨h1, h2, h3⟩ => ⟨by rw [h1, hok.1]; rfl, by rw [← hok.2]; exact h2, h3⟩
        have H9 := Lib.hid (And.intro o9 (And.intro kw9 hC9))
        clear K9 o9 kw9 hC90 hC9 hok k9 c8
        go_wp2_with fail
        refine H9.out.2.2.mono ?_
        rintro e w10 ⟨rfl, h10, k10⟩
        have o10 := own_kept H9.out.1 k10 HZ.out.2.2.2.2.2.2.2.2
        have kw10 := H9.out.2.1.next k10 (fun k _ h => (HN.out.2.1 k h).1)
        have H10 := Lib.hid (And.intro h10 (And.intro o10 kw10))
        have c10 := HCA.out.1 w10 o10
        clear h10 k10 o10 kw10 c9
        go_wp2_with fail
        have hw1 : IntKind.i64.wrap (q1 + 1) = q1 + 1 := by rw [IntKind.wrap_i64]; omega
        have hq0 : 0 ≤ q1 + 1 := by omega
        have hqm : q1 + 1 ≤ (m : Int) := by omega
        have hmc : m ≤ ct := by
          rcases H10.out.2.1.2 with ⟨hv, _⟩ | ⟨g', cap', cur, hv, _, _, q, _⟩
          · cases hv
          · injection hv with _ _ h3; omega
        have hqc0 : q1 ≤ (ct : Int) := by omega
        have hqc1 : q1 + 1 ≤ (ct : Int) := by omega
        obtain ⟨q, hq⟩ : ∃ q : Nat, q = q1.toNat := ⟨_, rfl⟩
        have hq2 : (q1 + 1).toNat = q + 1 := by omega
        have hqq : q < m := by omega
        obtain ⟨cells, hcells⟩ : ∃ cells : List Value, cells = zs.map (·.1) := ⟨_, rfl⟩
        have hcl : cells.length = m := by have := H10.out.2.1.1; rw [← hcells] at this; simpa using this
        have one : ∀ u ∈ cells, u.oneCell' = true := fun u hu => by
          rw [hcells] at hu
          obtain ⟨z, hz, rfl⟩ := List.mem_map.1 hu
          obtain ⟨B, cB, e1, _⟩ := HN.out.2.2.2.2.2.1 z hz
          rw [e1]; rfl
        have src1 : ∀ W, w10.grownBy W none → ∀ j u, (cells.take q)[j]? = some u → W.cell? ((⟨gt, 0, none⟩ : Addr).add j) = some u := fun W hW j u hu => by
          rw [Go.WideShapes.add_plain, Nat.zero_add]
          refine hW.cell (own_cell H10.out.2.1 ?_) (by simp)
          rw [← hcells]
          rw [List.getElem?_take] at hu
          split at hu
          · exact hu
          · cases hu
        obtain ⟨bx, hbx⟩ : ∃ bx : Nat, bx = if ct = q + 1 then 0 else q + 1 := ⟨_, rfl⟩
        have src2 : ∀ W, w10.grownBy W none → ∀ j u, (cells.drop (q + 1))[j]? = some u → W.cell? ((⟨gt, bx, none⟩ : Addr).add j) = some u := fun W hW j u hu => by
          rw [Go.WideShapes.add_plain]
          have hj := (List.getElem?_eq_some_iff.1 hu).1
          rw [List.length_drop] at hj
          rw [List.getElem?_drop] at hu
          rw [hbx, if_neg (by omega)]
          exact hW.cell (own_cell H10.out.2.1 (by rw [← hcells]; exact hu)) (by simp)
        have l1 : (cells.take q).length = q := by rw [List.length_take]; omega
        have l2 : (cells.drop (q + 1)).length = m - (q + 1) := by rw [List.length_drop, hcl]
        have HSR := Lib.hid (And.intro src1 (And.intro src2 (And.intro l1 (And.intro l2 (And.intro (fun u (hu : u ∈ cells.take q) => one u (List.mem_of_mem_take hu)) (fun u (hu : u ∈ cells.drop (q + 1)) => one u (List.mem_of_mem_drop hu)))))))
        have HQ := Lib.hid (And.intro hq (And.intro hcells hbx))
        have hcap : (ct = (q1 + 1).toNat ∧ bx = 0) ∨ (¬ ct = (q1 + 1).toNat ∧ bx = q + 1) := by
          rw [hbx, hq2]
          by_cases h : ct = q + 1
          · rw [if_pos h]; exact .inl ⟨h, rfl⟩
          · rw [if_neg h]; exact .inr ⟨h, rfl⟩
        have hq10 : w.heap.size ≤ w10.heap.size := H10.out.2.2.size
        clear hcl one src1 src2 l1 l2 hcells hbx
        have tok4 : True := trivial
        have c10b := (World.grownBy_alloc w10 (.cells #[] 30) none).cell c10 (by simp)
        have tok9 : True := trivial
        rcases hcap with ⟨hcap0, hb0⟩ | ⟨hcap, hb0⟩
        · have hcap : (ct = (q1 + 1).toNat) = True := by rw [eq_true hcap0]
          have hcap' : (ct = q1.toNat + 1) = True := by rw [eq_true (show ct = q1.toNat + 1 by omega)]
          rw [hb0] at HSR
          clear hcap0 hb0
          go_region_law (first
            | (have _t := tok4; refine step_append_src _ (by rfl) _ _ _ (by rfl) w10.heap.size 30 i0 (.slice none 0 0) 24 Tryd.underlying31 HI.out.1 HI.out.2.1 HI.out.2.2.1 HI.out.2.2.2 rfl _ 0 [] (by rfl) (by first | exact made_here (Nat.le_refl _) | exact (made_here (Nat.le_refl _)).alloc _ | exact made_here1 (Nat.le_refl _)) ⟨gt, 0, none⟩ q1.toNat ct (cells.take q) (by rfl) (by rw [HSR.out.2.2.1]; exact HQ.out.1) (HSR.out.1 _ (by first | exact grown_drew (World.grownBy_alloc w10 _ none) | exact grown_drew (grown_alloc2 w10 _ _))) HSR.out.2.2.2.2.1 (by omega) (by omega) (by simp <;> omega) ?_; intro A4 c4 w4 hown4 hg4 hat4; (first | (have q4n := once_cell1 hg4 hat4) | (have q4n := once_cell2 hg4 hat4) | skip); (try rw [Nat.zero_add] at q4n); have g4 : w10.grownBy w4 none := (by first | exact grown_own (grown_drew (World.grownBy_alloc w10 _ none)) hg4 (made_here (Nat.le_refl _)) (Nat.le_refl _) | exact grown_own (grown_drew (grown_alloc2 w10 _ _)) hg4 ((made_here (Nat.le_refl _)).alloc _) (Nat.le_refl _) | exact grown_own (grown_drew (grown_alloc2 w10 _ _)) hg4 (made_here1 (Nat.le_refl _)) (Nat.le_refl _)); rw [Nat.zero_add, List.nil_append] at hown4; have s4 := g4.size; have q4a := g4.cell c10 (by simp); have HO4 := Lib.hid (And.intro hown4 g4); clear tok4 hown4 hg4 g4 hat4)
            | (have _t := tok9; refine step_append_src _ (by rfl) _ _ _ (by rfl) w10.heap.size 30 i0 (.slice none 0 0) 24 Tryd.underlying31 HI.out.1 HI.out.2.1 HI.out.2.2.1 HI.out.2.2.2 rfl _ q1.toNat _ (by rfl) (by first | exact HO4.out.1 | exact HO4.out.1.alloc _) ⟨gt, 0, none⟩ (m - (q1.toNat + 1)) (ct - (q1.toNat + 1)) (cells.drop (q + 1)) (by rfl) (by rw [HSR.out.2.2.2.1, HQ.out.1]) (HSR.out.2.1 _ (by first | exact HO4.out.2 | exact grown_trans HO4.out.2 (World.grownBy_alloc _ _ none))) HSR.out.2.2.2.2.2 (by omega) (by omega) (by first | exact s4 | (rw [World.size_alloc]; omega)) ?_; intro A9 c9 w9' hown9 hg9 hat9; (first | (have q9 := cell_new_own HO4.out.1 hg9) | (have q9 := cell_old_own q4n.1 hg9 q4n.2) | skip); have g9 : w10.grownBy w9' none := (by first | exact grown_own HO4.out.2 hg9 HO4.out.1 (Nat.le_refl _) | exact grown_own (grown_trans HO4.out.2 (World.grownBy_alloc _ _ none)) hg9 (HO4.out.1.alloc _) (Nat.le_refl _)); have s9 := g9.size; have q9a := g9.cell c10 (by simp); have HO9 := Lib.hid (And.intro hown9 g9); clear tok9 hown9 hg9 g9 hat9)
            | (refine step_append_src _ (by rfl) _ _ _ (by rfl) w10.heap.size 30 i0 (.slice none 0 0) 24 Tryd.underlying31 HI.out.1 HI.out.2.1 HI.out.2.2.1 HI.out.2.2.2 rfl _ (q1.toNat + (m - (q1.toNat + 1))) _ (by rfl) (by first | exact HO9.out.1 | exact HO9.out.1.alloc _) ⟨w9'.heap.size, 0, none⟩ 1 1 [.slice B y.length d] (by rfl) rfl (fun j u hu => by
                have : j = 0 := by have := (List.getElem?_eq_some_iff.1 hu).1; simpa using this
                subst this
                have hu : Value.slice B y.length d = u := by simpa using hu
                subst hu
                rw [Go.WideShapes.add_plain]
                first
                  | exact (Blk.new w9' 30 #[.slice B y.length d]).cell 0
                  | exact q9) (fun u hu => by rw [List.mem_singleton.1 hu]; rfl) (by omega) (by omega) (by first | exact s9 | (rw [World.size_alloc]; omega)) ?_; intro A15 c15 w15 hown15 hg15 hat15; have g15 : w10.grownBy w15 none := (by first | exact grown_own HO9.out.2 hg15 HO9.out.1 (Nat.le_refl _) | exact grown_own (grown_trans HO9.out.2 (World.grownBy_alloc _ _ none)) hg15 (HO9.out.1.alloc _) (Nat.le_refl _)); have HO15 := Lib.hid (And.intro hown15 g15); clear hown15 hg15 g15 hat15)
            | (refine step_append_src _ (by rfl) _ _ _ (by rfl) w10.heap.size 30 i0 (.slice none 0 0) 24 Tryd.underlying31 HI.out.1 HI.out.2.1 HI.out.2.2.1 HI.out.2.2.2 rfl _ (q1.toNat + (m - (q1.toNat + 1))) _ (by rfl) (by first | exact HO9.out.1 | exact HO9.out.1.alloc _) ⟨w4.heap.size, 0, none⟩ 1 1 [.slice B y.length d] (by rfl) rfl (fun j u hu => by
                have : j = 0 := by have := (List.getElem?_eq_some_iff.1 hu).1; simpa using this
                subst this
                have hu : Value.slice B y.length d = u := by simpa using hu
                subst hu
                rw [Go.WideShapes.add_plain]
                first
                  | exact (Blk.new w9' 30 #[.slice B y.length d]).cell 0
                  | exact q9) (fun u hu => by rw [List.mem_singleton.1 hu]; rfl) (by omega) (by omega) (by first | exact s9 | (rw [World.size_alloc]; omega)) ?_; intro A15 c15 w15 hown15 hg15 hat15; have g15 : w10.grownBy w15 none := (by first | exact grown_own HO9.out.2 hg15 HO9.out.1 (Nat.le_refl _) | exact grown_own (grown_trans HO9.out.2 (World.grownBy_alloc _ _ none)) hg15 (HO9.out.1.alloc _) (Nat.le_refl _)); have HO15 := Lib.hid (And.intro hown15 g15); clear hown15 hg15 g15 hat15)
            | (refine step_append_src _ (by rfl) _ _ _ (by rfl) w10.heap.size 30 i0 (.slice none 0 0) 24 Tryd.underlying31 HI.out.1 HI.out.2.1 HI.out.2.2.1 HI.out.2.2.2 rfl _ (q1.toNat + (m - (q1.toNat + 1))) _ (by rfl) (by first | exact HO9.out.1 | exact HO9.out.1.alloc _) ⟨w10.heap.size + 1, 0, none⟩ 1 1 [.slice B y.length d] (by rfl) rfl (fun j u hu => by
                have : j = 0 := by have := (List.getElem?_eq_some_iff.1 hu).1; simpa using this
                subst this
                have hu : Value.slice B y.length d = u := by simpa using hu
                subst hu
                rw [Go.WideShapes.add_plain]
                first
                  | exact (Blk.new w9' 30 #[.slice B y.length d]).cell 0
                  | exact q9) (fun u hu => by rw [List.mem_singleton.1 hu]; rfl) (by omega) (by omega) (by first | exact s9 | (rw [World.size_alloc]; omega)) ?_; intro A15 c15 w15 hown15 hg15 hat15; have g15 : w10.grownBy w15 none := (by first | exact grown_own HO9.out.2 hg15 HO9.out.1 (Nat.le_refl _) | exact grown_own (grown_trans HO9.out.2 (World.grownBy_alloc _ _ none)) hg15 (HO9.out.1.alloc _) (Nat.le_refl _)); have HO15 := Lib.hid (And.intro hown15 g15); clear hown15 hg15 g15 hat15)
            | (refine step_append_src _ (by rfl) _ _ _ (by rfl) w10.heap.size 30 i0 (.slice none 0 0) 24 Tryd.underlying31 HI.out.1 HI.out.2.1 HI.out.2.2.1 HI.out.2.2.2 rfl _ (q1.toNat + (m - (q1.toNat + 1))) _ (by rfl) (by first | exact HO9.out.1 | exact HO9.out.1.alloc _) ⟨w10.heap.size, 0, none⟩ 1 1 [.slice B y.length d] (by rfl) rfl (fun j u hu => by
                have : j = 0 := by have := (List.getElem?_eq_some_iff.1 hu).1; simpa using this
                subst this
                have hu : Value.slice B y.length d = u := by simpa using hu
                subst hu
                rw [Go.WideShapes.add_plain]
                first
                  | exact (Blk.new w9' 30 #[.slice B y.length d]).cell 0
                  | exact q9) (fun u hu => by rw [List.mem_singleton.1 hu]; rfl) (by omega) (by omega) (by first | exact s9 | (rw [World.size_alloc]; omega)) ?_; intro A15 c15 w15 hown15 hg15 hat15; have g15 : w10.grownBy w15 none := (by first | exact grown_own HO9.out.2 hg15 HO9.out.1 (Nat.le_refl _) | exact grown_own (grown_trans HO9.out.2 (World.grownBy_alloc _ _ none)) hg15 (HO9.out.1.alloc _) (Nat.le_refl _)); have HO15 := Lib.hid (And.intro hown15 g15); clear hown15 hg15 g15 hat15)
            | (set_option pp.deepTerms true in set_option pp.maxSteps 1000000 in trace_state; fail))
          all_goals
            clear c10 c10b
            have hlen : (dropL L [y] ++ [y]).length = q1.toNat + (m - (q1.toNat + 1)) + 1 := by
              rw [List.length_append, List.length_singleton]
              have := HZ.out.2.2.2.2.2.1
              have := HQ.out.1
              omega
            have hls15 : LsAt w15 A15 (dropL L [y] ++ [y]) := by
              obtain ⟨z1, z2, z3, z4, z5, z6, z7, z8, z9⟩ := HZ.out
              have kw15 := H10.out.2.2.next (Kept.of_grown (F := fun k => w.heap.size ≤ k) HO15.out.2 fun _ e => by cases e) (fun _ _ h => h)
              have h := ls_own (zs := zs.take q ++ zs.drop (q + 1) ++ [(.slice B y.length d, y)]) (by
                rw [List.map_append, List.map_append, List.map_take, List.map_drop, ← HQ.out.2.1]
                exact HO15.out.1) (fun zz hzz => by
                rcases List.mem_append.1 hzz with hzz | hzz
                · rcases List.mem_append.1 hzz with hzz | hzz
                  · exact HEL.out w15 kw15 zz (List.mem_of_mem_take hzz)
                  · exact HEL.out w15 kw15 zz (List.mem_of_mem_drop hzz)
                · rw [List.mem_singleton.1 hzz]
                  exact ⟨B, d, rfl, HCA.out.2 w15 kw15⟩)
              rw [List.map_append, List.map_append, List.map_take, List.map_drop, HN.out.2.2.2.2.1, HQ.out.1, ← z5] at h
              exact h
            have hsm2 : ∀ yy ∈ dropL L [y] ++ [y], yy.length ≤ 100000 := fun yy h => by
              rcases List.mem_append.1 h with h | h
              · have := HN.out.2.2.2.2.2.2.1.2.1 yy (List.mem_filter.1 h).1; omega
              · rw [List.mem_singleton.1 h]; have := HZ.out.2.2.2.1; omega
            have htl2 : takeL 100 [] (dropL L [y] ++ [y]) = dropL L [y] ++ [y] := by
              rw [takeL, dropL_none, List.take_of_length_le]; rw [hlen]; show _ ≤ 100; omega
            have hC15 := pool_take w15 _ (fun _ => False) p (dropL L [y] ++ [y]) (H10.out.1.kept (Kept.of_grown (F := fun _ => False) HO15.out.2 fun _ e => by cases e) (fun _ h => h.elim)) (by rw [hlen]; omega) hsm2 100 none 0 0 [] rfl (by omega) (fun h => absurd rfl h) (fun _ h => h.elim)
            have H15 := Lib.hid (And.intro hC15 (And.intro hls15 (And.intro hlen htl2)))
            clear hC15 hls15 hlen hsm2 htl2
            go_wp2_with fail
            refine H15.out.1.mono ?_
            rintro e w16 ⟨Av, cv, zv, rfl, hrv, hsv, k16⟩
            rw [H15.out.2.2.2] at hrv hsv
            rw [H15.out.2.2.2, H15.out.2.2.1]
            have hlsv := hrv.ls
            rw [hsv] at hlsv
            have H16 := Lib.hid (And.intro hlsv k16)
            clear hrv hsv hlsv k16
            go_wp2_with fail
            refine (samelists_is w16 Av A15 cv c15 _ (dropL L [y] ++ [y]) H15.out.2.2.1 (by omega) H16.out.1 (H15.out.2.1.grown H16.out.2)).mono ?_
            rintro e w17 ⟨rfl, k17⟩
            have H17 := Lib.hid (H10.out.2.2.next (Kept.of_grown (F := fun k => w.heap.size ≤ k) (grown_trans HO15.out.2 (grown_trans H16.out.2 k17)) fun _ e => by cases e) (fun _ _ h => h))
            clear k17
            go_wp2_with fail
            go_ret
            exact ⟨rfl, H17.out.below (Nat.le_refl _) (fun _ h => h)⟩
        · have hb1 : bx = q1.toNat + 1 := by rw [hb0, HQ.out.1]
          rw [hb1] at HSR
          have hcap' : ¬ ct = q1.toNat + 1 := by omega
          clear hb0 hb1
          go_region_law (first
            | (have _t := tok4; refine step_append_src _ (by rfl) _ _ _ (by rfl) w10.heap.size 30 i0 (.slice none 0 0) 24 Tryd.underlying31 HI.out.1 HI.out.2.1 HI.out.2.2.1 HI.out.2.2.2 rfl _ 0 [] (by rfl) (by first | exact made_here (Nat.le_refl _) | exact (made_here (Nat.le_refl _)).alloc _ | exact made_here1 (Nat.le_refl _)) ⟨gt, 0, none⟩ q1.toNat ct (cells.take q) (by rfl) (by rw [HSR.out.2.2.1]; exact HQ.out.1) (HSR.out.1 _ (by first | exact grown_drew (World.grownBy_alloc w10 _ none) | exact grown_drew (grown_alloc2 w10 _ _))) HSR.out.2.2.2.2.1 (by omega) (by omega) (by simp <;> omega) ?_; intro A4 c4 w4 hown4 hg4 hat4; (first | (have q4n := once_cell1 hg4 hat4) | (have q4n := once_cell2 hg4 hat4) | skip); (try rw [Nat.zero_add] at q4n); have g4 : w10.grownBy w4 none := (by first | exact grown_own (grown_drew (World.grownBy_alloc w10 _ none)) hg4 (made_here (Nat.le_refl _)) (Nat.le_refl _) | exact grown_own (grown_drew (grown_alloc2 w10 _ _)) hg4 ((made_here (Nat.le_refl _)).alloc _) (Nat.le_refl _) | exact grown_own (grown_drew (grown_alloc2 w10 _ _)) hg4 (made_here1 (Nat.le_refl _)) (Nat.le_refl _)); rw [Nat.zero_add, List.nil_append] at hown4; have s4 := g4.size; have q4a := g4.cell c10 (by simp); have HO4 := Lib.hid (And.intro hown4 g4); clear tok4 hown4 hg4 g4 hat4)
            | (have _t := tok9; refine step_append_src _ (by rfl) _ _ _ (by rfl) w10.heap.size 30 i0 (.slice none 0 0) 24 Tryd.underlying31 HI.out.1 HI.out.2.1 HI.out.2.2.1 HI.out.2.2.2 rfl _ q1.toNat _ (by rfl) (by first | exact HO4.out.1 | exact HO4.out.1.alloc _) ⟨gt, q1.toNat + 1, none⟩ (m - (q1.toNat + 1)) (ct - (q1.toNat + 1)) (cells.drop (q + 1)) (by rfl) (by rw [HSR.out.2.2.2.1, HQ.out.1]) (HSR.out.2.1 _ (by first | exact HO4.out.2 | exact grown_trans HO4.out.2 (World.grownBy_alloc _ _ none))) HSR.out.2.2.2.2.2 (by omega) (by omega) (by first | exact s4 | (rw [World.size_alloc]; omega)) ?_; intro A9 c9 w9' hown9 hg9 hat9; (first | (have q9 := cell_new_own HO4.out.1 hg9) | (have q9 := cell_old_own q4n.1 hg9 q4n.2) | skip); have g9 : w10.grownBy w9' none := (by first | exact grown_own HO4.out.2 hg9 HO4.out.1 (Nat.le_refl _) | exact grown_own (grown_trans HO4.out.2 (World.grownBy_alloc _ _ none)) hg9 (HO4.out.1.alloc _) (Nat.le_refl _)); have s9 := g9.size; have q9a := g9.cell c10 (by simp); have HO9 := Lib.hid (And.intro hown9 g9); clear tok9 hown9 hg9 g9 hat9)
            | (refine step_append_src _ (by rfl) _ _ _ (by rfl) w10.heap.size 30 i0 (.slice none 0 0) 24 Tryd.underlying31 HI.out.1 HI.out.2.1 HI.out.2.2.1 HI.out.2.2.2 rfl _ (q1.toNat + (m - (q1.toNat + 1))) _ (by rfl) (by first | exact HO9.out.1 | exact HO9.out.1.alloc _) ⟨w9'.heap.size, 0, none⟩ 1 1 [.slice B y.length d] (by rfl) rfl (fun j u hu => by
                have : j = 0 := by have := (List.getElem?_eq_some_iff.1 hu).1; simpa using this
                subst this
                have hu : Value.slice B y.length d = u := by simpa using hu
                subst hu
                rw [Go.WideShapes.add_plain]
                first
                  | exact (Blk.new w9' 30 #[.slice B y.length d]).cell 0
                  | exact q9) (fun u hu => by rw [List.mem_singleton.1 hu]; rfl) (by omega) (by omega) (by first | exact s9 | (rw [World.size_alloc]; omega)) ?_; intro A15 c15 w15 hown15 hg15 hat15; have g15 : w10.grownBy w15 none := (by first | exact grown_own HO9.out.2 hg15 HO9.out.1 (Nat.le_refl _) | exact grown_own (grown_trans HO9.out.2 (World.grownBy_alloc _ _ none)) hg15 (HO9.out.1.alloc _) (Nat.le_refl _)); have HO15 := Lib.hid (And.intro hown15 g15); clear hown15 hg15 g15 hat15)
            | (refine step_append_src _ (by rfl) _ _ _ (by rfl) w10.heap.size 30 i0 (.slice none 0 0) 24 Tryd.underlying31 HI.out.1 HI.out.2.1 HI.out.2.2.1 HI.out.2.2.2 rfl _ (q1.toNat + (m - (q1.toNat + 1))) _ (by rfl) (by first | exact HO9.out.1 | exact HO9.out.1.alloc _) ⟨w4.heap.size, 0, none⟩ 1 1 [.slice B y.length d] (by rfl) rfl (fun j u hu => by
                have : j = 0 := by have := (List.getElem?_eq_some_iff.1 hu).1; simpa using this
                subst this
                have hu : Value.slice B y.length d = u := by simpa using hu
                subst hu
                rw [Go.WideShapes.add_plain]
                first
                  | exact (Blk.new w9' 30 #[.slice B y.length d]).cell 0
                  | exact q9) (fun u hu => by rw [List.mem_singleton.1 hu]; rfl) (by omega) (by omega) (by first | exact s9 | (rw [World.size_alloc]; omega)) ?_; intro A15 c15 w15 hown15 hg15 hat15; have g15 : w10.grownBy w15 none := (by first | exact grown_own HO9.out.2 hg15 HO9.out.1 (Nat.le_refl _) | exact grown_own (grown_trans HO9.out.2 (World.grownBy_alloc _ _ none)) hg15 (HO9.out.1.alloc _) (Nat.le_refl _)); have HO15 := Lib.hid (And.intro hown15 g15); clear hown15 hg15 g15 hat15)
            | (refine step_append_src _ (by rfl) _ _ _ (by rfl) w10.heap.size 30 i0 (.slice none 0 0) 24 Tryd.underlying31 HI.out.1 HI.out.2.1 HI.out.2.2.1 HI.out.2.2.2 rfl _ (q1.toNat + (m - (q1.toNat + 1))) _ (by rfl) (by first | exact HO9.out.1 | exact HO9.out.1.alloc _) ⟨w10.heap.size + 1, 0, none⟩ 1 1 [.slice B y.length d] (by rfl) rfl (fun j u hu => by
                have : j = 0 := by have := (List.getElem?_eq_some_iff.1 hu).1; simpa using this
                subst this
                have hu : Value.slice B y.length d = u := by simpa using hu
                subst hu
                rw [Go.WideShapes.add_plain]
                first
                  | exact (Blk.new w9' 30 #[.slice B y.length d]).cell 0
                  | exact q9) (fun u hu => by rw [List.mem_singleton.1 hu]; rfl) (by omega) (by omega) (by first | exact s9 | (rw [World.size_alloc]; omega)) ?_; intro A15 c15 w15 hown15 hg15 hat15; have g15 : w10.grownBy w15 none := (by first | exact grown_own HO9.out.2 hg15 HO9.out.1 (Nat.le_refl _) | exact grown_own (grown_trans HO9.out.2 (World.grownBy_alloc _ _ none)) hg15 (HO9.out.1.alloc _) (Nat.le_refl _)); have HO15 := Lib.hid (And.intro hown15 g15); clear hown15 hg15 g15 hat15)
            | (refine step_append_src _ (by rfl) _ _ _ (by rfl) w10.heap.size 30 i0 (.slice none 0 0) 24 Tryd.underlying31 HI.out.1 HI.out.2.1 HI.out.2.2.1 HI.out.2.2.2 rfl _ (q1.toNat + (m - (q1.toNat + 1))) _ (by rfl) (by first | exact HO9.out.1 | exact HO9.out.1.alloc _) ⟨w10.heap.size, 0, none⟩ 1 1 [.slice B y.length d] (by rfl) rfl (fun j u hu => by
                have : j = 0 := by have := (List.getElem?_eq_some_iff.1 hu).1; simpa using this
                subst this
                have hu : Value.slice B y.length d = u := by simpa using hu
                subst hu
                rw [Go.WideShapes.add_plain]
                first
                  | exact (Blk.new w9' 30 #[.slice B y.length d]).cell 0
                  | exact q9) (fun u hu => by rw [List.mem_singleton.1 hu]; rfl) (by omega) (by omega) (by first | exact s9 | (rw [World.size_alloc]; omega)) ?_; intro A15 c15 w15 hown15 hg15 hat15; have g15 : w10.grownBy w15 none := (by first | exact grown_own HO9.out.2 hg15 HO9.out.1 (Nat.le_refl _) | exact grown_own (grown_trans HO9.out.2 (World.grownBy_alloc _ _ none)) hg15 (HO9.out.1.alloc _) (Nat.le_refl _)); have HO15 := Lib.hid (And.intro hown15 g15); clear hown15 hg15 g15 hat15)
            | (set_option pp.deepTerms true in set_option pp.maxSteps 1000000 in trace_state; fail))
          all_goals
            clear c10 c10b
            have hlen : (dropL L [y] ++ [y]).length = q1.toNat + (m - (q1.toNat + 1)) + 1 := by
              rw [List.length_append, List.length_singleton]
              have := HZ.out.2.2.2.2.2.1
              have := HQ.out.1
              omega
            have hls15 : LsAt w15 A15 (dropL L [y] ++ [y]) := by
              obtain ⟨z1, z2, z3, z4, z5, z6, z7, z8, z9⟩ := HZ.out
              have kw15 := H10.out.2.2.next (Kept.of_grown (F := fun k => w.heap.size ≤ k) HO15.out.2 fun _ e => by cases e) (fun _ _ h => h)
              have h := ls_own (zs := zs.take q ++ zs.drop (q + 1) ++ [(.slice B y.length d, y)]) (by
                rw [List.map_append, List.map_append, List.map_take, List.map_drop, ← HQ.out.2.1]
                exact HO15.out.1) (fun zz hzz => by
                rcases List.mem_append.1 hzz with hzz | hzz
                · rcases List.mem_append.1 hzz with hzz | hzz
                  · exact HEL.out w15 kw15 zz (List.mem_of_mem_take hzz)
                  · exact HEL.out w15 kw15 zz (List.mem_of_mem_drop hzz)
                · rw [List.mem_singleton.1 hzz]
                  exact ⟨B, d, rfl, HCA.out.2 w15 kw15⟩)
              rw [List.map_append, List.map_append, List.map_take, List.map_drop, HN.out.2.2.2.2.1, HQ.out.1, ← z5] at h
              exact h
            have hsm2 : ∀ yy ∈ dropL L [y] ++ [y], yy.length ≤ 100000 := fun yy h => by
              rcases List.mem_append.1 h with h | h
              · have := HN.out.2.2.2.2.2.2.1.2.1 yy (List.mem_filter.1 h).1; omega
              · rw [List.mem_singleton.1 h]; have := HZ.out.2.2.2.1; omega
            have htl2 : takeL 100 [] (dropL L [y] ++ [y]) = dropL L [y] ++ [y] := by
              rw [takeL, dropL_none, List.take_of_length_le]; rw [hlen]; show _ ≤ 100; omega
            have hC15 := pool_take w15 _ (fun _ => False) p (dropL L [y] ++ [y]) (H10.out.1.kept (Kept.of_grown (F := fun _ => False) HO15.out.2 fun _ e => by cases e) (fun _ h => h.elim)) (by rw [hlen]; omega) hsm2 100 none 0 0 [] rfl (by omega) (fun h => absurd rfl h) (fun _ h => h.elim)
            have H15 := Lib.hid (And.intro hC15 (And.intro hls15 (And.intro hlen htl2)))
            clear hC15 hls15 hlen hsm2 htl2
            go_wp2_with fail
            refine H15.out.1.mono ?_
            rintro e w16 ⟨Av, cv, zv, rfl, hrv, hsv, k16⟩
            rw [H15.out.2.2.2] at hrv hsv
            rw [H15.out.2.2.2, H15.out.2.2.1]
            have hlsv := hrv.ls
            rw [hsv] at hlsv
            have H16 := Lib.hid (And.intro hlsv k16)
            clear hrv hsv hlsv k16
            go_wp2_with fail
            refine (samelists_is w16 Av A15 cv c15 _ (dropL L [y] ++ [y]) H15.out.2.2.1 (by omega) H16.out.1 (H15.out.2.1.grown H16.out.2)).mono ?_
            rintro e w17 ⟨rfl, k17⟩
            have H17 := Lib.hid (H10.out.2.2.next (Kept.of_grown (F := fun k => w.heap.size ≤ k) (grown_trans HO15.out.2 (grown_trans H16.out.2 k17)) fun _ e => by cases e) (fun _ _ h => h))
            clear k17
            go_wp2_with fail
            go_ret
            exact ⟨rfl, H17.out.below (Nat.le_refl _) (fun _ h => h)⟩
end Go.Proofs.YtnhjokcjdjfijaaDoor
