/-
  Disk: Sync.
-/
import Derived.Test.YtmecimhlnajaoaaDoorDkR
import Derived.Test.YtmecimhlnajaoaaDoorDkQ
import Derived.Test.YtmecimhlnajaoaaDoorRw
namespace Go.Proofs.YtmecimhlnajaoaaDoor
open Go.RowKit Go.Maps

theorem sameKey_int (a b : Int) : (Lit.int .i64 a).sameKey (.int .i64 b) = decide (a = b) := by
  by_cases h : a = b
  · subst h; simp [Lit.sameKey]
  · rw [sameKey_ne (fun e => h (by injection e))]; simp [h]
theorem setCells_cons (w : World) (b o : Nat) (v : Value) (r : List Value) : w.setCells b o (v :: r) = (w.setCell ⟨b, o, none⟩ v).setCells b (o + 1) r := rfl
theorem lay_cons {α : Type} (cs : List α) (o : Nat) (v : α) (vs : List α) (h : o + (v :: vs).length ≤ cs.length) : (cs.set o v).take (o + 1) ++ vs ++ (cs.set o v).drop (o + 1 + vs.length) = cs.take o ++ (v :: vs) ++ cs.drop (o + (v :: vs).length) := by
  rw [List.length_cons] at h ⊢
  have e1 : (cs.set o v).take (o + 1) = cs.take o ++ [v] := by
    rw [List.take_add_one, List.take_set_of_le (Nat.le_refl _), List.getElem?_set_self (by omega)]; rfl
  rw [e1, List.drop_set_of_lt (by omega), show o + 1 + vs.length = o + (vs.length + 1) by omega]
  simp
theorem blk_setCells (b : Nat) (t : TypeId) : ∀ (vs : List Value) (o : Nat) (w : World) (cs : List Value), Blk w b t cs.toArray → o + vs.length ≤ cs.length → Blk (w.setCells b o vs) b t (cs.take o ++ vs ++ cs.drop (o + vs.length)).toArray
  | [], o, w, cs, h, hl => by simpa [World.setCells] using h
  | v :: vs, o, w, cs, h, hl => by
    rw [setCells_cons, ← lay_cons cs o v vs hl]
    refine blk_setCells b t vs (o + 1) _ _ ?_ (by rw [List.length_set]; rw [List.length_cons] at hl; omega)
    simpa using h.set o v
theorem grown_cells {w : World} (b : Nat) : ∀ (vs : List Value) (o : Nat) (w1 : World), w.grownBy w1 (some b) → w.grownBy (w1.setCells b o vs) (some b)
  | [], _, _, h => h
  | v :: r, o, w1, h => by
    rw [setCells_cons]
    exact grown_cells b r (o + 1) _ (grown_far h (.inr rfl) v)
def rowsC (S : List (List Int)) : List Value := S.flatMap fun r => r.map (Value.int .u8)
theorem rowsC_len : ∀ (S : List (List Int)), (∀ r ∈ S, r.length = 64) → (rowsC S).length = S.length * 64
  | [], _ => rfl
  | a :: S, h => by
    have := rowsC_len S (fun r hr => h r (List.mem_cons_of_mem _ hr))
    have h0 := h a List.mem_cons_self
    simp only [rowsC, List.flatMap_cons, List.length_append, List.length_map, List.length_cons] at this ⊢
    omega
theorem rowsC_set : ∀ (S : List (List Int)) (_ : ∀ r ∈ S, r.length = 64) (k : Nat) (_ : k < S.length) (r : List Int) (_ : r.length = 64), rowsC (S.set k r) = (rowsC S).take (k * 64) ++ r.map (Value.int .u8) ++ (rowsC S).drop (k * 64 + (r.map (Value.int .u8)).length)
  | a :: S, h, 0, _, r, hr => by
    have h0 : (a.map (Value.int .u8)).length = 64 := by simpa using h a List.mem_cons_self
    rw [List.length_map, hr]
    simp only [rowsC, List.set_cons_zero, List.flatMap_cons, Nat.zero_mul, List.take_zero, List.nil_append, Nat.zero_add]
    rw [List.drop_append_of_le_length (by omega), List.drop_of_length_le (by omega)]; rfl
  | a :: S, h, k + 1, hk, r, hr => by
    have h0 : (a.map (Value.int .u8)).length = 64 := by simpa using h a List.mem_cons_self
    have ih := rowsC_set S (fun r hr => h r (List.mem_cons_of_mem _ hr)) k (by simpa using hk) r hr
    simp only [rowsC, List.set_cons_succ, List.flatMap_cons] at ih ⊢
    rw [ih, show (k + 1) * 64 = (a.map (Value.int .u8)).length + k * 64 by omega, Nat.add_assoc, List.take_length_add_append, List.drop_length_add_append]
    simp only [List.append_assoc]
theorem wpListIn_clear_own {H : Type} {F : Fence} {n : Nat} {P : Program} (w : World) {ops : Array Oper} {rest : List Oper} {o : Oper} {a : Act} {Q : Exit → Act → World → Prop}
    (hg : o.guard = none) (x : Operand) (t : TypeId) (hop : o.op = Op.call { callee := Callee.builtin Builtin.clear, args := #[x], argTypes := #[t] })
    (k e : TypeId) (ht : P.underlying t = some (.map k e)) (R : Value → Option (DataW Unit × List MemPlace)) (b nn : Nat) (D : DataW Unit) (hm : a.eval x = .map (some b)) (hown : w.ownsMap P k R b nn D)
    (hK : ∀ w', w'.ownsMap P k R b 0 (.map []) → w.mapTurned w' b → wpListIn F n P ops Q rest (a.put o.dst (.tuple #[])) w') :
    wpListIn F n P ops Q (o :: rest) a w := by
  refine wpListIn_plain hg fun K' hK' => ?_
  obtain ⟨w', hrun, h1, h2⟩ := clear_own hown ht o.type
  unfold Oper.wpIn
  refine ⟨?_, ?_⟩
  · simp [Oper.about, hop, resolve, Target.leads, Sem.run_pure]
  · rw [Oper.semAt_plain F _ _ (by rw [hop]; intro c hc'; cases hc')]
    simp [execOp, hop, resolve, invoke, builtin, hm, hrun, Result.andThen]
    exact hK' _ _ (hK w' h1 h2)
theorem ready_store_mid {P : Program} {ops : Array Oper} {o : Oper} {a : Act} {w : World} {K : Act → World → Prop} {Q : Exit → Act → World → Prop} (hw : Region.wanted o (yielded ops a.tmps) = true) (ty : TypeId) (x y : Operand) (ho : o.op = .store ty x y)
    (b off : Nat) (cells : Array Value) (hx : a.eval x = .pointer (some ⟨b, off, none⟩)) (hy : a.eval y = .agg cells)
    (ht : w.there b off cells.size) (hi : (P.info? ty).map (·.size) = some cells.size) (h1 : cells.all (·.oneCell') = true)
    (h : K (a.put o.dst undef) (w.setCells b off cells.toList)) : if Region.wanted o (yielded ops a.tmps) = true then Oper.wp P o a w K Q else K (a.put o.dst undef) w := by
  rw [if_pos hw]
  unfold Oper.wp execOp
  simp only [ho, hx, hy, Sem.run_bind, Sem.run_pure, Result.andThen_ok, run_storeAt_mid w b off ty cells ht hi h1]
  exact h
theorem mgS_id {syn : List (List Int)} {wr : List (Option (List Int))} {p : Nat → Bool} (h : ∀ i, i < syn.length → p i = true → wr[i]?.join = none) : mgS syn wr p = syn := by
  refine List.ext_getElem (mgS_length _ _ _) (fun i h1 h2 => ?_)
  rw [mgS_at h1]
  have e : syn.getD i [] = syn[i] := by simp [List.getD, List.getElem?_eq_getElem h2]
  cases hp : p i with
  | false => simpa using e
  | true => rw [h i h2 hp, e]; rfl
theorem mapOf_at {D : DataW Unit} {wr : List (Option (List Int))} (h : MapOf D wr) {x : Int} {y : DataW Unit} (hx : has D (.int .i64 x) = true) (hy : ∀ zd, D.atKey (.int .i64 x) zd = y) : ∃ i : Nat, ∃ r, x = (i : Int) ∧ i < wr.length ∧ wr[i]? = some (some r) ∧ y = secD r := by
  obtain ⟨i, hi, rfl⟩ := h.2.1 x hx
  rw [mapOf_has h hi] at hx
  obtain ⟨r, hr⟩ := Option.isSome_iff_exists.1 hx
  exact ⟨i, r, rfl, hi, by rw [List.getElem?_eq_getElem hi, hr], by rw [← hy (.map []), ((h.2.2 i hi).2 r hr).2]⟩
theorem wpIn_normal {F : Fence} {n : Nat} {P : Program} {c : Code} {Q : Exit → Act → World → Prop} {a : Act} {w : World} (h : Code.wpIn F n P c (fun e a' w' => e = .normal ∧ Q e a' w') a w) : Code.wpIn F n P c Q a w :=
  wpIn_mono h (by rintro e a' w' ⟨rfl, h⟩; exact h)
def syncS (z : DkS) : DkS := { z with syn := mgS z.syn z.wr (fun _ => true), wr := List.replicate z.wr.length none }
set_option maxRecDepth 100000 in
set_option maxHeartbeats 1000000 in
theorem dk_sync (w : World) (d b m B : Nat) (z : DkS) (h : DkIs w d b m z) (ep : Addr) (hB : B ≤ d) (hep : ErrAt w B 5 ep) :
    Calls Tryd.prog 15 #[.pointer (some ⟨d, 0, none⟩)] w fun e w' => Kept (fun j => j = d ∨ j = b ∨ j = m) w w' ∧
      ((opOk z = false ∧ e = .returned (errV ep) ∧ DkIs w' d b m (opS z)) ∨ (opOk z = true ∧ e = .returned .nilIface ∧ DkIs w' d b m (syncS (opS z)))) := by
  obtain ⟨zs, hzs⟩ : ∃ zs : Array Value, zs = (zeroR.map (Value.int .u8)).toArray := ⟨_, rfl⟩
  have hz : ∀ w, Sem.run Tryd.prog (zeroValue 36) w = .ok (.agg zs) w := fun w => by rw [hzs]; exact zero_sec w (by kernel_rfl)
  have hzz : zs.size = 64 := by rw [hzs]; simp [zeroR]
  have HS := Lib.hid hzz
  have HOP := Lib.hid (dk_operate w d b m B z ep h hB hep)
  clear hzs hzz h hB hep
  refine (callsIn_wide (n := 6)).1 ?_
  refine callsIn_of_wp Tryd.func15 rfl trivial ?_ rfl
  simp only [Tryd.ntmps15, List.size_toArray, List.length_cons, List.length_nil, Nat.reduceAdd, Nat.reduceSub, Array.replicate_succ, Array.replicate_zero, List.push_toArray, List.append_toArray, List.nil_append, List.cons_append]
  gi_wp2
  refine ⟨trivial, ?_⟩
  refine (callsIn_wide.2 HOP.out).mono ?_
  rintro e w1 ⟨rfl, h1, k1⟩
  have k1' : Kept (fun j => j = d ∨ j = b ∨ j = m) w w1 := k1.mono (fun j _ h => .inl h)
  cases ho : opOk z with
  | false =>
    have HF := Lib.hid (And.intro k1' h1)
    clear k1 k1' h1
    simp only [Bool.false_eq_true, if_false]
    gi_wp2
    go_ret
    exact ⟨HF.out.1, .inl ⟨ho, rfl, HF.out.2⟩⟩
  | true =>
    obtain ⟨y, hy⟩ : ∃ y, opS z = y := ⟨_, rfl⟩
    rw [hy] at h1
    obtain ⟨D, hown, hM⟩ := h1.2.2.1
    have c1 := h1.1.cell 1
    simp only [List.getElem?_toArray, List.getElem?_cons_zero, List.getElem?_cons_succ] at c1
    have H1 := Lib.hid (And.intro h1 (And.intro k1' (And.intro hy (And.intro hown (And.intro hM ho)))))
    clear h1 k1 k1' hy hown hM
    simp only [if_true]
    gi_wp2_with (gi_at_range; refine wpListIn_range_own _ rfl _ 60 rfl 3 36 keyed_i Tryd.underlying60 (secR 64) m 5000 _ rfl H1.out.2.2.2.1 ?_; intro wg hrg hgg hsg)
    obtain ⟨ri, hri⟩ : ∃ ri, w1.heap.size = ri := ⟨_, rfl⟩
    rw [hri] at hrg hsg
    try rw [hri]
    go_frame
    have HRI := Lib.hid (And.intro hri (And.intro hrg hgg))
    clear hri hrg hgg hsg c1
    gi_loopw [4] (fun _ wx => ∃ (left : Lit → Bool) (cnt : Nat) (S : List (List Int)), wx.ranges Tryd.prog 3 (secR 64) m ri 5000 D left cnt ∧ Blk wx b 36 (rowsC S).toArray ∧ (∀ r ∈ S, r.length = 64) ∧ S = mgS y.syn y.wr (fun i => !left (.int .i64 (i : Int))) ∧ (∀ kl, left kl = true → has D kl = true) ∧ Kept (fun j => j = b ∨ j = ri) wg wx) (fun _ wx => wx.rangeLeft m ri)
    case atStart =>
      refine ⟨_, _, y.syn, HRI.out.2.1, ?_, H1.out.1.2.2.2.2.1, ?_, fun _ h => h, Kept.refl _ _⟩
      · exact H1.out.1.2.1.grown HRI.out.2.2 (by simp)
      · refine (mgS_id fun i hi hp => ?_).symm
        have hi2 : i < y.wr.length := by rw [H1.out.1.2.2.2.1]; exact hi
        rw [List.getElem?_eq_getElem hi2]
        have h2 : has D (.int .i64 (i : Int)) = false := by simpa using hp
        rw [mapOf_has H1.out.2.2.2.2.1 hi2] at h2
        cases e : y.wr[i] with
        | none => rfl
        | some r => rw [e] at h2; cases h2
    case round =>
      obtain ⟨left, cnt, S, hrg, hbS, hS64, hSe, hlD, hkx⟩ := hrel
      rename World => wx
      gi_wp2_with (first
        | (gi_at_next; refine wpListIn_next_ranges _ rfl _ rfl 3 keyed_i (secR 64) (Value.int .i64) Value.agg (fun key kl hk => by obtain ⟨x, rfl, _⟩ := Maps.keyOf_int_inv Tryd.underlying3 hk; exact ⟨x, rfl⟩) (fun v y hv => by obtain ⟨r, _, cs, rfl, _⟩ := sec_val hv; exact ⟨cs, rfl⟩) m ri 5000 _ _ _ rfl hrg ?_ ?_)
        | gi_in)
      · intro hc0 hl0
        have hd : Blk wx d 62 #[.slice (some ⟨b, 0, none⟩) y.syn.length y.syn.length, .map (some m), .bool y.off, .int .i64 y.lasts] := (H1.out.1.1.grown HRI.out.2.2 (by simp)).kept hkx (by
          have := H1.out.1.1.lt; have := HRI.out.1; have := H1.out.1.2.2.2.2.2.2.2.1; omega)
        have c1 := hd.cell 1
        simp only [List.getElem?_toArray, List.getElem?_cons_zero, List.getElem?_cons_succ] at c1
        have hK : Kept (fun j => j = d ∨ j = b ∨ j = m) w wx := (H1.out.2.1.next (Kept.of_grown (F := fun _ => False) HRI.out.2.2 fun _ e => by cases e) (fun _ _ h => h.elim)).next hkx (fun j hj h => by
          rcases h with h | h
          · exact .inr (.inl h)
          · have := HRI.out.1; have := H1.out.2.1.size; omega)
        have hSend : S = (syncS y).syn := by rw [hSe]; exact mgS_congr (fun i _ => by simp [hl0])
        have HF := Lib.hid (And.intro hd (And.intro hK (And.intro hSend (And.intro hbS (And.intro hS64 hrg.owns)))))
        clear hc0 hl0 hrg hbS hS64 hSe hlD hkx hd hK hSend
        obtain ⟨w5, hrun5, hown5, ht5⟩ := clear_own HF.out.2.2.2.2.2 Tryd.underlying60 0
        have H5 := Lib.hid (And.intro hown5 ht5)
        clear hown5 ht5
        gi_wp2
        go_ret
        obtain ⟨hown5, ht5⟩ := H5.out
        obtain ⟨hd, hK, hSe, hbS, hS64, _⟩ := HF.out
        obtain ⟨h1, _, _, hl, _, hlen, hlasts, hne⟩ := H1.out.1
        have hk5 : Kept (fun j => j = m) wx w5 := Kept.of_grown (F := fun j => j = m) ht5.grown (fun j e => (Option.some.inj e).symm)
        refine ⟨hK.next hk5 (fun j _ h => .inr (.inr h)), .inr ⟨ho, rfl, ?_⟩⟩
        rw [H1.out.2.2.1]
        have hsl : (syncS y).syn.length = y.syn.length := mgS_length _ _ _
        refine ⟨by rw [hsl]; exact hd.kept hk5 (fun e => hne.2.1 e), ?_, ⟨_, hown5.mono (by omega), mapOf_empty _⟩, by rw [hsl, ← hl]; simp [syncS], by rw [← hSe]; exact hS64, by rw [hsl]; exact hlen, hlasts, hne⟩
        show Blk w5 b _ (rowsC (syncS y).syn).toArray
        rw [← hSe]
        exact hbS.kept hk5 (fun e => hne.2.2 e)
      · intro x c kl ya yb w2 cnt2 hkey hlk hv hat hrg2 hlt2 hg2 hs2 hen
        obtain ⟨x', ex, rfl, hwx⟩ := Maps.keyOf_int_inv Tryd.underlying3 hkey
        cases ex
        obtain ⟨r, hr, cs, hcs0, hcs, hcz, hc1, hye⟩ := sec_val hv
        injection hcs0 with hcs0
        subst hcs0
        obtain ⟨k, r', rfl, hk, hwk, hy2⟩ := mapOf_at H1.out.2.2.2.2.1 (hlD _ hlk) hat
        obtain rfl : r = r' := secD_inj (hye.symm.trans hy2)
        have hkn : k < y.syn.length := by rw [← H1.out.1.2.2.2.1]; exact hk
        have hSl : S.length = y.syn.length := by rw [hSe, mgS_length]
        have hne := H1.out.1.2.2.2.2.2.2.2
        have hdw := H1.out.1.1.lt
        have hri := HRI.out.1
        have hb2 := hbS.grown hg2 (by have := H1.out.1.2.1.lt; intro e; injection e with e; omega)
        have hk2 : Kept (fun j => j = b ∨ j = ri) wg w2 := hkx.next (Kept.of_grown (F := fun j => j = ri) hg2 (fun j e => (Option.some.inj e).symm)) (fun j _ h => .inr h)
        have hd2 : Blk w2 d 62 #[.slice (some ⟨b, 0, none⟩) y.syn.length y.syn.length, .map (some m), .bool y.off, .int .i64 y.lasts] := (H1.out.1.1.grown HRI.out.2.2 (by simp)).kept hk2 (by omega)
        obtain ⟨p, hp⟩ : ∃ p, w2.heap.size = p := ⟨_, rfl⟩
        obtain ⟨X, hX⟩ : ∃ X, (w2.alloc (.cells zs 36)).setRow p c = X := ⟨_, rfl⟩
        have gX : w2.grownBy X none := by rw [← hX]; exact grown_row (World.grownBy_alloc _ _ none) (.inl (by omega)) _
        have bX : Blk X p 36 c := by rw [← hX, ← hp]; exact (Blk.new w2 _ _).row c
        have hcz2 : c.toList.length = 64 := by rw [Array.length_toList, hcz]
        have hS1 : Blk (X.drew.setCells b (k * 64) c.toList) b 36 (rowsC (S.set k r)).toArray := by
          rw [rowsC_set S hS64 k (by omega) r hr]
          have e : r.map (Value.int .u8) = c.toList := by rw [hcs]
          rw [e]
          exact blk_setCells b _ c.toList (k * 64) _ _ ((hb2.grown gX (by simp)).drew) (by rw [rowsC_len S hS64, hcz2]; omega)
        have hgS : w2.grownBy (X.drew.setCells b (k * 64) c.toList) (some b) := grown_cells b _ _ _ (grown_drew (grown_weak gX _))
        have hrg3 := hrg2.kept hgS (by intro e; injection e with e; exact hne.2.2 e.symm) (by have := H1.out.1.2.1.lt; intro e; injection e with e; omega)
        have hk3 : Kept (fun j => j = b ∨ j = ri) wg (X.drew.setCells b (k * 64) c.toList) := hk2.next (Kept.of_grown (F := fun j => j = b) hgS (fun j e => (Option.some.inj e).symm)) (fun j _ h => .inl h)
        have hS2 : S.set k r = mgS y.syn y.wr (fun i => !((fun z => left z && !z.sameKey (.int .i64 (k : Int))) (.int .i64 (i : Int)))) := by
          rw [hSe]
          refine (mgS_step hwk ?_ (fun i hi => ?_)).symm
          · simp [sameKey_int]
          · have : ¬ ((i : Int) = (k : Int)) := by omega
            simp [sameKey_int, this]
        have hthere : X.drew.there b (k * 64) 64 := fun j hj => by
          refine ⟨?_, ((hb2.grown gX (by simp)).drew).frozen _⟩
          rw [((hb2.grown gX (by simp)).drew).cell, List.getElem?_toArray, List.getElem?_eq_getElem (by rw [rowsC_len S hS64]; omega)]; rfl
        have HW := Lib.hid (And.intro hS1 (And.intro hrg3 (And.intro hk3 (And.intro hS2 (And.intro hthere (And.intro (show ∀ r' ∈ S.set k r, r'.length = 64 from fun r' h => by rcases List.mem_or_eq_of_mem_set h with h | rfl; exact hS64 _ h; exact hr) hrg))))))
        have HV := Lib.hid (And.intro hr (And.intro hcs (And.intro hcz hc1)))
        have HLt := Lib.hid (And.intro hlt2 hlD)
        have hkb : 0 ≤ (k : Int) ∧ (k : Int) < (y.syn.length : Int) := by omega
        have c0 := (hd2.grown gX (by simp)).cell 0
        simp only [List.getElem?_toArray, List.getElem?_cons_zero] at c0
        have HB := Lib.hid (And.intro c0 (And.intro bX (And.intro hkn (show wg.heap.size ≤ p by rw [← hp]; exact hk2.size))))
        clear hkey hlk hv hat hrg2 hlt2 hg2 hs2 hrg hbS hS64 hSe hlD hkx hwx hcs hcz hc1 hye hwk hy2 hk hkn hSl hb2 hk2 hd2 hdw hri hne gX bX hcz2 hS1 hgS hrg3 hk3 hS2 hthere hr c0
        gi_upto_region 7 with (first
          | (refine wpListIn_store_row rfl 36 _ _ rfl p c (by rw [← hp]; rfl) rfl 36 zs (by rw [← hp]; exact heap_alloc_new w2 _) (by rw [HV.out.2.2.1]; kernel_rfl) (by rw [HS.out, HV.out.2.2.1]) HV.out.2.2.2 ?_)
          | gi_in)
        rw [hX]
        try simp only [Act.put, List.setIfInBounds_toArray, List.set_cons_zero, List.set_cons_succ]
        refine wpIn_normal ?_
        refine wpIn_region_held_wide (S := fun Y => Y.cell? ⟨d, 0, none⟩ = some (.slice (some ⟨b, 0, none⟩) y.syn.length y.syn.length) ∧ Y.rangeAt p 0 c.toList) (by kernel_rfl) (by kernel_rfl) (by rintro ⟨_, _, h, _⟩; cases h) ⟨HB.out.1, range_of_blk HB.out.2.1.drew⟩ (fun hHeld => ?_)
        refine wpAnyH_take (i := 0) (oi := _) (v := ?vs0) rfl (by kernel_rfl) (by kernel_rfl) (by kernel_rfl) (fun _ _ _ h => by cases h.1) (Or.inl ⟨by rfl, ?hys0⟩) (by assumption) ?rests0
        case hys0 => (intro V hSw; (try dsimp only at hSw); go_simp) <;> with_reducible rfl
        try simp only [Act.put, List.getElem_toArray, List.getElem_cons_succ, List.getElem_cons_zero, List.setIfInBounds_toArray, List.set_cons_zero, List.set_cons_succ]
        refine wpAnyH_take (i := 1) (oi := _) (v := ?vs1) rfl (by kernel_rfl) (by kernel_rfl) (by kernel_rfl) (fun _ _ _ h => by cases h.1) (Or.inl ⟨by rfl, ?hys1⟩) (by assumption) ?rests1
        case hys1 => (intro V hSw; (try dsimp only at hSw); go_simp) <;> with_reducible rfl
        try simp only [Act.put, List.getElem_toArray, List.getElem_cons_succ, List.getElem_cons_zero, List.setIfInBounds_toArray, List.set_cons_zero, List.set_cons_succ]
        refine wpAnyH_take (i := 2) (oi := _) (v := ?vs2) rfl (by kernel_rfl) (by kernel_rfl) (by kernel_rfl) (fun _ _ _ h => by cases h.1) (Or.inl ⟨by rfl, ?hys2⟩) (by assumption) ?rests2
        case hys2 => (intro V hSw; (try dsimp only at hSw); go_simp) <;> with_reducible rfl
        try simp only [Act.put, List.getElem_toArray, List.getElem_cons_succ, List.getElem_cons_zero, List.setIfInBounds_toArray, List.set_cons_zero, List.set_cons_succ]
        refine wpAnyH_take (i := 3) (oi := _) (v := ?vs3) rfl (by kernel_rfl) (by kernel_rfl) (by kernel_rfl) (fun _ _ _ h => by cases h.1) (Or.inl ⟨by rfl, ?hys3⟩) (by assumption) ?rests3
        case hys3 => (intro V hSw; (try dsimp only at hSw); go_simp) <;> with_reducible rfl
        try simp only [Act.put, List.getElem_toArray, List.getElem_cons_succ, List.getElem_cons_zero, List.setIfInBounds_toArray, List.set_cons_zero, List.set_cons_succ]
        refine wpAnyH_take (i := 4) (oi := _) (v := ?vs4) rfl (by kernel_rfl) (by kernel_rfl) (by kernel_rfl) (fun _ _ _ h => by cases h.1) (Or.inl ⟨by rfl, ?hys4⟩) (by assumption) ?rests4
        case hys4 => (intro V hSw; (try dsimp only at hSw); go_simp) <;> with_reducible rfl
        try simp only [Act.put, List.getElem_toArray, List.getElem_cons_succ, List.getElem_cons_zero, List.setIfInBounds_toArray, List.set_cons_zero, List.set_cons_succ]
        refine wpAnyH_take (i := 5) (oi := _) (v := .agg c) rfl (by kernel_rfl) (by kernel_rfl) (by kernel_rfl) (fun _ _ _ h => by cases h.1) (yieldsIf_load_mid (by rfl) _ _ rfl p 0 rfl c.toList _ (fun V hSw => hSw.2) Tryd.underlying36 rfl (by rw [Array.length_toList, HV.out.2.2.1]; kernel_rfl)) (by assumption) ?rests5
        try simp only [Act.put, List.getElem_toArray, List.getElem_cons_succ, List.getElem_cons_zero, List.setIfInBounds_toArray, List.set_cons_zero, List.set_cons_succ]
        refine wpAnyH_take (i := 6) (oi := _) (v := ?vs6) rfl (by kernel_rfl) (by kernel_rfl) (by kernel_rfl) (fun _ _ _ h => by cases h.1) (Or.inl ⟨by rfl, ?hys6⟩) (by assumption) ?rests6
        case hys6 => (intro V hSw; (try dsimp only at hSw); go_simp) <;> with_reducible rfl
        try simp only [Act.put, List.getElem_toArray, List.getElem_cons_succ, List.getElem_cons_zero, List.setIfInBounds_toArray, List.set_cons_zero, List.set_cons_succ]
        refine wpAnyH_ready (rs := [7]) (by kernel_rfl) (by simp) ?_
        refine (AllReadyH.cons (o := _) rfl (fun K9 hK => ?_) AllReadyH.nil)
        refine ready_store_mid (by rfl) 36 _ _ rfl b (k * 64) c rfl rfl (by rw [HV.out.2.2.1]; exact HW.out.2.2.2.2.1) (by rw [HV.out.2.2.1]; kernel_rfl) HV.out.2.2.2 ?_
        refine hK.out _ _ ?_ (fun hHeld => ?_)
        · refine ⟨(World.cell?_setCells_out _ _ _ _ _ (fun e => absurd e (by have := H1.out.1.2.2.2.2.2.2.2.1; simpa using this))).trans HB.out.1, ?_⟩
          exact World.rangeAt_setCells_apart (range_of_blk HB.out.2.1.drew) _ _ _ (.inl (fun e => by have := H1.out.1.2.1.lt; have := HRI.out.1; have := HRI.out.2.2.size; have := HB.out.2.2.2; omega))
        clear hK K9
        try simp only [Act.put, List.getElem_toArray, List.getElem_cons_succ, List.getElem_cons_zero, List.setIfInBounds_toArray, List.set_cons_zero, List.set_cons_succ]
        refine wpAnyH_done (by kernel_rfl) ?_ _
        refine ⟨rfl, ?_⟩
        go_roundw
        case rel =>
          refine ⟨_, _, _, _, _, _, _, _, _, _, _, _, _, _, ?_, rfl⟩
          exact ⟨_, cnt2, S.set k r, HW.out.2.1, HW.out.1, HW.out.2.2.2.2.2.1, HW.out.2.2.2.1, fun kl h => HLt.out.2 kl (by simp only [Bool.and_eq_true] at h; exact h.1), HW.out.2.2.1⟩
        case measure =>
          rw [HW.out.2.1.left_eq, HW.out.2.2.2.2.2.2.left_eq]; exact HLt.out.1
end Go.Proofs.YtmecimhlnajaoaaDoor
