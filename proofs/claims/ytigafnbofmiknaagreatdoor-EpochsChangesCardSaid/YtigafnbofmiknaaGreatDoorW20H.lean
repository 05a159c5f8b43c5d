/- EqL, EqA, PwG, EpJ, LaidM -/
import Derived.Test.YtigafnbofmiknaaGreatDoorRqD
import Derived.Test.YtigafnbofmiknaaGreatDoorW20F
import Derived.Test.YtigafnbofmiknaaGreatDoorW20G
import Derived.ChangeSame
import Derived.Test.YtigafnbofmiknaaGreatDoorW20t
import Derived.Test.YtigafnbofmiknaaGreatDoorW20e
import Derived.Deep.Strs
import Derived.Test.YtigafnbofmiknaaGreatDoorW20D
import Derived.Test.YtigafnbofmiknaaGreatDoorW20p
import Derived.Test.YtigafnbofmiknaaGreatDoorW20b
import Derived.Test.YtigafnbofmiknaaGreatDoorCards
import Derived.Test.YtigafnbofmiknaaGreatDoorTie
import Derived.ProofKit
import Derived.OpenShut
import Derived.LaidMore
import Derived.MakeChecks
import Derived.Stop.Joined
import Derived.Stop.LaidErr
import Derived.SevenTiedAt
namespace Go.Proofs.YtigafnbofmiknaaGreatDoor
set_option maxRecDepth 100000
set_option maxHeartbeats 10000000
open Go.RowKit
section
theorem qcFit_of {w : World} {q : Qc} (h : q.At w) (hr : QcR q) (hb : bigQc q = false) : QcFit w q /\ q.L.length <= 12 := by
 unfold bigQc at hb
 simp only [Bool.or_eq_false_iff, decide_eq_false_iff_not] at hb
 have hl : q.L.length <= 12 := by omega
 refine ⟨⟨⟨by have := hr.1.1; omega, by have := hr.1.2.1; omega⟩, h.1, h.2.1, fun x hx => ?_, by omega⟩, hl⟩
 have hs := List.any_eq_false.1 hb.2 x hx
 have hn : x.n1 <= 100 /\ x.n2 <= 20 := by
  unfold bigSg bigN at hs
  simp only [Bool.or_eq_true, decide_eq_true_eq] at hs
  omega
 have hi := hr.2 x hx
 exact ⟨h.2.2 x hx, ⟨by omega, by omega⟩, by have := hi.1; unfold inRX at this; omega, by have := hi.2; unfold inRX at this; omega⟩
theorem qcD_of {w : World} {q : Qc} (h : q.At w) (hr : QcR q) (hb : bigQc q = false) : QcD w q := ⟨h, hr.1, by have := (qcFit_of h hr hb).2; omega⟩
theorem bkD_of {w : World} {b : Bk} (h : b.At w) (hr : BkR b) (hb : bigBk b = false) : BkD w b := by
 unfold bigBk at hb
 simp only [Bool.or_eq_false_iff, decide_eq_false_iff_not] at hb
 obtain ⟨h1, h2, h3, h4⟩ := hb
 have he := hr.1
 have hrr := hr.2.1
 unfold inRX at he hrr
 refine ⟨⟨⟨by omega, by omega⟩, h.1, (qcFit_of h.2.1 hr.2.2.1 h4).1, ⟨h.2.2.1.1, fun t ht => ⟨h.2.2.1.2 t ht, ?_⟩⟩, ⟨h.2.2.2.1, fun x hx => ⟨h.2.2.2.2 x hx, ?_⟩⟩, by omega, by omega⟩, h, qcD_of h.2.1 hr.2.2.1 h4, hr.2.2.2.2.2.2⟩
 · have := List.any_eq_false.1 h3 t ht
   simp only [decide_eq_true_eq] at this
   omega
 · have := hr.2.2.2.1 x hx
   unfold inRX at this
   omega
theorem ch_of {w : World} {c : Ch} (h : c.At w) (hr : ChR c) (hb : bigCg ⟨c.x, c.y, c.z, c.q⟩ = false) : BkD w c.x /\ BkD w c.y /\ BkD w c.z /\ QcD w c.q := by
 unfold bigCg at hb
 simp only [Bool.or_eq_false_iff] at hb
 have ha := hb.1
 simp only [Cg.row, List.any_cons, List.any_nil, Bool.or_false, Bool.or_eq_false_iff] at ha
 exact ⟨bkD_of h.1 hr.1 ha.1, bkD_of h.2.1 hr.2.1 ha.2.1, bkD_of h.2.2.1 hr.2.2.1 ha.2.2, qcD_of h.2.2.2 hr.2.2.2 hb.2⟩
end
section
attribute [local go_sem] Oper.semAt_some
theorem changes_any (w : World) (E : Nat -> Addr) (hR : Rounds w) (he : ErrEnv w w.heap.size E) (ge : Int) (A : Option Addr) (c : Nat) (V : List Vd) (gl : List Int) (hV : VdsAt w A V) (ok : keysOk V) (hcap : V.length <= c) (hg16 : gl.length = 16) (gv : Array Value) (hgv : grV ge (.slice A V.length c) (arrV .u8 gl) = gv)
    (ch : Ch) (hch : ch.At w) (hr : ChR ch) (cv : Array Value) (hcv : ch.val = cv) :
    Calls Tryz.prog 3 #[.agg gv, .agg cv] w fun e w' => e = .returned (.bool true) /\ w.grownBy w' none := by
 obtain ⟨n, hn⟩ : ∃ n, V.length = n := ⟨_, rfl⟩
 have hgs : gv.size = 18 := by rw [<- hgv]; exact uy (by rw [zf]; exact hg16)
 have hcs : cv.size = 136 := by rw [<- hcv]; exact Ch.size hch
 obtain ⟨W1, hW1⟩ : ∃ W1, (w.alloc (.cells gv 26)).alloc (.cells cv 35) = W1 := ⟨_, rfl⟩
 have g1 : w.grownBy W1 none := by rw [<- hW1]; exact za (gQ) (gQ)
 have bg : Blk W1 w.heap.size 26 (grV ge (.slice A V.length c) (arrV .u8 gl)) := by rw [<- hW1, hgv]; exact (Blk.new w _ _).alloc _
 have bc : Blk W1 (w.heap.size + 1) 35 cv := by
  have := Blk.new (w.alloc (.cells gv 26)) 35 cv
  rw [<- hW1]; simpa using this
 obtain ⟨_, k1, _⟩ := zej (by rw [zf]; exact hg16) bg
 rw [hn] at k1
 rw [hgv] at bg
 have hat : ∀ W : World, w.grownBy W none -> Rounds W /\ ErrEnv W W.heap.size E /\ VdsAt W A V := fun W hW =>
  ⟨hR.grown hW (by simp), zdu he hW, hV.grown hW⟩
 have HAL := hQ_ (alive20 W1 E (hat W1 g1).1 ((hat W1 g1).2.1.var 0 (by omega)) (E 10) ((hat W1 g1).2.1.var 10 (by omega)))
 have HBG := hQ_ (fun (W : World) (hW : w.grownBy W none) => rbigC_is W ⟨ch.x, ch.y, ch.z, ch.q⟩ ⟨(hch.grown hW).1, (hch.grown hW).2.1, (hch.grown hW).2.2.1, (hch.grown hW).2.2.2⟩ cv (by rw [<- hcv]; rfl))
 obtain ⟨qf, hqf⟩ : ∃ qf : Qc -> Nat, qf = fun p => qcN V ge p.e p.r p.Bl gl p.L := ⟨_, rfl⟩
 have hle : ∀ p, qf p <= 18 := fun p => by rw [hqf]; exact QFn_le ⟨ge, V, gl⟩ p
 obtain ⟨N, hN⟩ : ∃ N, chkN qf ge V ch.x ch.y ch.z ch.q = N := ⟨_, rfl⟩
 have hN18 : N <= 18 := by rw [<- hN]; exact chkN_le hle _ _ _ _ _ _
 have HCP := hQ_ (fun (W : World) (hW : w.grownBy W none) (hl : n <= 20) => (show Calls Tryz.prog 8 #[.agg gv, .agg cv] W fun e' w' => e' = .returned (evOf E N) /\ W.grownBy w' none from by
  rw [<- hN]
  exact chk_is W E (hat W hW).1 (hat W hW).2.1 ge A c n V hn (hat W hW).2.2 ok (by omega) (arrV .u8 gl) (by rw [zf]; exact hg16) gv (by rw [<- hgv, hn]) qf PQn (fun W2 hW2 p hp hpW pv hpv => by
   rw [hqf]
   exact ground_qc W E (hat W hW).1 (hat W hW).2.1 W2 hW2 ⟨ge, V, gl⟩ A c ⟨ok, by rw [hn]; omega, hg16⟩ ((hat W hW).2.2.grown hW2) gv hgv.symm p hp hpW pv hpv) ch.x ch.y ch.z ch.q ⟨hr.2.1.2.2.1.1, hr.2.2.1.2.2.1.1, hr.2.2.2.1⟩ (hch.grown hW).1 (hch.grown hW).2.1 (hch.grown hW).2.2.1 (hch.grown hW).2.2.2 cv hcv))
 have HCD := hQ_ (fun (W : World) (hW : w.grownBy W none) (hl : n <= 20) (hb : bigCg ⟨ch.x, ch.y, ch.z, ch.q⟩ = false) => (show Calls Tryz.prog 9 #[.agg gv, .agg cv] W fun e' w' => e' = .returned (.int .i64 (N : Int)) /\ W.grownBy w' none from by
  have hd := ch_of (hch.grown hW) hr hb
  rw [<- hN, hqf]
  exact rcheck_is W ge A c n V hn (hat W hW).2.2 ok (by omega) (by omega) gl hg16 gv (by rw [<- hgv, hn]) ch.x ch.y ch.z ch.q hd.1 hd.2.1 hd.2.2.1 hd.2.2.2 cv hcv))
 have HNU := hQ_ (fun (W : World) (hW : w.grownBy W none) => num_evN W W.heap.size E (hat W hW).2.1 N hN18)
 have HS := hQ_ (aQ (show (Tryz.prog.info? 26).map (·.size) = some gv.size by rw [hgs]; exact sz_Gre) (show (Tryz.prog.info? 35).map (·.size) = some cv.size by rw [hcs]; exact sz_CGq))
 have HX := hQ_ (aQ g1 (aQ (zd bg) (aQ (zd bc) k1)))
 have HW := hQ_ hW1
 obtain ⟨ev, hev⟩ : ∃ ev, evOf E N = ev := ⟨_, rfl⟩
 rw [hev] at HCP HNU
 clear hat hgs hcs hN hn hW1 g1 bg bc k1 hgv hR he hV ok hcap hg16 hch hr hcv hqf hle hN18 hev
 go_enter Tryz.func3, Tryz.ntmps3
 go_upto_region 1 with (fail)
 rw [HW.out]
 go_wp2_with fail
 refine HAL.out.mono ?_
 rintro e w2 ⟨rfl, g2⟩
 have HG2 := hQ_ (za HX.out.1 g2)
 have HRG := hQ_ (aQ (ze HX.out.2.1 g2) (ze HX.out.2.2.1 g2))
 have k2 := g2.cell HX.out.2.2.2 (by simp)
 clear g2
 by_cases h20 : 20 < n
 · have a1 : decide ((20 : Int) < (n : Int)) = true := by simp; omega
   clear h20
   go_wp2_with fail
   go_ret
   exact ⟨rfl, HG2.out⟩
 have a1 : decide ((20 : Int) < (n : Int)) = false := by simp; omega
 have HL20 := hQ_ (show n <= 20 by omega)
 clear h20
 go_wp2_with (refine wpList_load_mid_w (by rfl) 35 _ rfl (w.heap.size + 1) 0 rfl cv.toList _ HRG.out.2 Tryz.underlying35 rfl (by rw [Array.length_toList]; exact HS.out.2) ?_; rw [Array.toArray_toList])
 refine (HBG.out w2 HG2.out).mono ?_
 rintro e w3 ⟨rfl, g3⟩
 have HG3 := hQ_ (za HG2.out g3)
 have HRH := hQ_ (aQ (ze HRG.out.1 g3) (ze HRG.out.2 g3))
 clear g3 k2
 cases hbb : bigCg ⟨ch.x, ch.y, ch.z, ch.q⟩ with
 | true =>
  clear hbb
  go_wp2_with fail
  go_ret
  exact ⟨rfl, HG3.out⟩
 | false =>
  have V1 := hQ_ (show ∀ zz : Gr w3, Sem.run Tryz.prog (Instr.loadAt 26 (.pointer (some ⟨w.heap.size, 0, none⟩))) zz.1 = .ok (.agg gv) zz.1 from fun zz => ya zz.1 w.heap.size 0 26 gv _ (ze HRH.out.1 zz.2) Tryz.underlying26 rfl HS.out.1)
  have V2 := hQ_ (show ∀ zz : Gr w3, Sem.run Tryz.prog (Instr.loadAt 35 (.pointer (some ⟨w.heap.size + 1, 0, none⟩))) zz.1 = .ok (.agg cv) zz.1 from fun zz => ya zz.1 (w.heap.size + 1) 0 35 cv _ (ze HRH.out.2 zz.2) Tryz.underlying35 rfl HS.out.2)
  have T1 := hQ_ (show ∀ zz : Gr w3, Calls Tryz.prog 8 #[.agg gv, .agg cv] zz.1 fun e w' => e = .returned ev /\ zz.1.grownBy w' none from fun zz => HCP.out zz.1 (za HG3.out zz.2) HL20.out)
  have T2 := hQ_ (show ∀ zz : Gr w3, Calls Tryz.prog 7 #[ev] zz.1 fun e w' => e = .returned (.int .i64 (N : Int)) /\ zz.1.grownBy w' none from fun zz => HNU.out zz.1 (za HG3.out zz.2))
  have T3 := hQ_ (show ∀ zz : Gr w3, Calls Tryz.prog 9 #[.agg gv, .agg cv] zz.1 fun e w' => e = .returned (.int .i64 (N : Int)) /\ zz.1.grownBy w' none from fun zz => HCD.out zz.1 (za HG3.out zz.2) HL20.out hbb)
  clear hbb
  go_wp2_with fail
  refine zj (by kernel_rfl) (by kernel_rfl) ?_
  repeat (first
   | go_big_quiet_skip
   | (go_big_quiet_want; first
    | (refine zg 26 _ ⟨w.heap.size, 0, none⟩ (.agg gv) rfl rfl (by rintro _ ⟨z, rfl⟩; exact V1.out z) ?_; simp only [Act.put, List.setIfInBounds_toArray, List.set_cons_zero, List.set_cons_succ]; go_big_quiet_on)
    | (refine zg 35 _ ⟨w.heap.size + 1, 0, none⟩ (.agg cv) rfl rfl (by rintro _ ⟨z, rfl⟩; exact V2.out z) ?_; simp only [Act.put, List.setIfInBounds_toArray, List.set_cons_zero, List.set_cons_succ]; go_big_quiet_on)
    | (go_big_quiet_op; first | go_big_quiet_on | go_big_quiet_call (first | (go_at_call 8; with_reducible exact Calls.grown _ (T1.out _)) | (go_at_call 7; with_reducible exact Calls.grown _ (T2.out _)) | (go_at_call 9; with_reducible exact Calls.grown _ (T3.out _))))))
  refine wpQuiet_nil ?_
  rintro w7 ⟨⟨_, k7⟩, rfl⟩
  have HZ := hQ_ (za HG3.out k7)
  clear k7 V1 V2 T1 T2 T3
  go_wp2_with fail
  go_ret
  exact ⟨rfl, HZ.out⟩
end
section
open Go.ChangeShapes Go.WideShapes Go.ChangeAt Go.RowKit
theorem cellsVd : Tryz.prog.cellsOf 55 = 17 := by kernel_rfl
theorem zdd : Tryz.prog.cellsOf 24 = 16 := by kernel_rfl
theorem cellsI : Tryz.prog.cellsOf 3 = 1 := by kernel_rfl
theorem cellsU8 : Tryz.prog.cellsOf 5 = 1 := by kernel_rfl
section
variable {H : Type} {enc : TypeId × Value -> H} {w : World} {base : Nat} {spare : Nat -> Bool} {held : Bool} {fuel : Nat} {cs : List Value} {x : DataW H × List MemPlace}
theorem open_vd (h : DataW.trod enc Tryz.prog w base spare held fuel 55 cs = some x) :
    ∃ y : Vd, cs = y.cells /\ y.key.length = 16 /\ (Lit.int .i64 y.p).wf = true := by
 obtain ⟨y0, y1, n, _, hlen, h0, h1⟩ := trod_struct2 Tryz.underlying55 h
 rw [cellsVd] at hlen
 obtain ⟨l, hl, hl16, _, _⟩ := um Tryz.underlying24 Tryz.underlying5 cellsU8 zdd h0
 obtain ⟨p, hp, _, hwf⟩ := DataW.trod_int Tryz.underlying3 h1
 dsimp only at hl hp
 rw [zdd] at hl
 rw [cellsI] at hp
 refine ⟨⟨l, p⟩, ?_, hl16, hwf⟩
 have e : cs = cs.take 16 ++ (cs.drop 16).take 1 := by
  rw [List.take_of_length_le (l := cs.drop 16) (by simp; omega), List.take_append_drop]
 rw [e, hp, show cs.take 16 = l.map (Value.int .u8) from hl]
 rfl
theorem open_vds (h : DataW.trod enc Tryz.prog w base spare held fuel 22 cs = some x) :
    ∃ A n c, ∃ xs : List Vd, cs = [.slice A n c] /\ xs.length = n /\ n <= c /\ VdsAt w A xs /\ keysOk xs /\ ∀ y ∈ xs, (Lit.int .i64 y.p).wf = true := by
 rcases DataW.trod_slice Tryz.underlying22 h with ⟨hcs, _⟩ | ⟨a, len, cap, elems, rest, n, _, hcs, _, _, hl, _, hlen, hel, _⟩
 · exact ⟨none, 0, 0, [], hcs, rfl, Nat.le_refl _, fun h => absurd rfl h, fun _ h => by simp at h, fun _ h => by simp at h⟩
 · rw [cellsVd] at hel
   have each : ∀ i, i < len -> ∃ o : Vd, o.key.length = 16 /\ (Lit.int .i64 o.p).wf = true /\ ∀ j v, o.cells[j]? = some v -> w.cell? (a.add (i * 17 + j)) = some v := by
    intro i hi
    have hE := hel i hi
    have hi' : i < elems.length := by omega
    rw [List.getElem?_eq_getElem hi'] at hE
    simp only [Option.bind_eq_some_iff] at hE
    obtain ⟨cs', hc', ht⟩ := hE
    obtain ⟨y, rfl, h16, hwf⟩ := open_vd ht
    obtain ⟨_, _, hat⟩ := World.cells?_some hc'
    refine ⟨y, h16, hwf, fun j v hv => ?_⟩
    rw [<- Go.Deep.add_add]
    have hj : j < 17 := by have := (List.getElem?_eq_some_iff.1 hv).1; rwa [Vd.cells_length h16] at this
    rw [hat j hj, hv]
   let ops : List Vd := (List.range len).map fun i => if h : i < len then (each i h).choose else ⟨[], 0⟩
   have hops : ops.length = len := by simp [ops]
   have hget : ∀ k (hk : k < ops.length), ∃ hk' : k < len, ops[k] = (each k hk').choose := fun k hk => ⟨by omega, by simp [ops, show k < len by omega]⟩
   refine ⟨some a, len, cap, ops, hcs, hops, hl, fun hne => ?_, fun y hy => ?_, fun y hy => ?_⟩
   · have h0 : 0 < len := by rw [<- hops]; exact List.length_pos_iff.2 hne
     have hspot : ∃ b off, a = ⟨b, off, none⟩ := by
      obtain ⟨o, h16, _, hc⟩ := each 0 h0
      have h1 : 0 < o.cells.length := by rw [Vd.cells_length h16]; omega
      exact zcq (hc 0 _ (List.getElem?_eq_getElem h1)) rfl
     obtain ⟨b, off, rfl⟩ := hspot
     refine ⟨b, off, rfl, fun k hk j v hv => ?_⟩
     obtain ⟨hk', e⟩ := hget k hk
     rw [e] at hv
     have := (each k hk').choose_spec.2.2 j v hv
     rw [Go.WideShapes.add_plain, <- Nat.add_assoc] at this
     exact this
   · obtain ⟨k, hk, rfl⟩ := List.getElem_of_mem hy
     obtain ⟨hk', e⟩ := hget k hk
     rw [e]
     exact (each k hk').choose_spec.1
   · obtain ⟨k, hk, rfl⟩ := List.getElem_of_mem hy
     obtain ⟨hk', e⟩ := hget k hk
     rw [e]
     exact (each k hk').choose_spec.2.1
end
end
section
open Go.ChangeShapes Go.WideShapes Go.ChangeAt Go.RowKit
theorem cellsVdsJ : Tryz.prog.cellsOf 22 = 1 := by kernel_rfl
theorem cellsGrJ : Tryz.prog.cellsOf 26 = 18 := by kernel_rfl
section
variable {H : Type} {enc : TypeId × Value -> H} {w : World} {base : Nat} {spare : Nat -> Bool} {held : Bool} {fuel : Nat} {cs : List Value} {x : DataW H × List MemPlace}
theorem open_grJ (h : DataW.trod enc Tryz.prog w base spare held fuel 26 cs = some x) :
    ∃ e A c, ∃ V : List Vd, ∃ Gl : List Int, cs = (grV e (.slice A V.length c) (arrV .u8 Gl)).toList /\ VdsAt w A V /\ keysOk V /\ V.length <= c /\ Gl.length = 16 := by
 obtain ⟨y0, y1, y2, n, _, hlen, h0, h1, h2⟩ := Go.Deep.trod_struct3 Tryz.underlying26 h
 rw [cellsGrJ] at hlen
 obtain ⟨e, e0, _, _⟩ := DataW.trod_int Tryz.underlying3 h0
 obtain ⟨A, m, c, V, e1, rfl, hc, hV, ok, _⟩ := open_vds h1
 obtain ⟨l, hl, hl16, _, _⟩ := um Tryz.underlying24 Tryz.underlying5 cellsU8 zdd h2
 refine ⟨e, A, c, V, l, ?_, hV, ok, hc, hl16⟩
 dsimp only at e0 e1 hl
 rw [cellsI] at e0
 rw [cellsVdsJ] at e1
 rw [zdd] at hl
 have q (i : Nat) : cs.drop i = (cs.drop i).take 1 ++ cs.drop (i + 1) := by
  have := (List.take_append_drop 1 (cs.drop i)).symm
  rwa [List.drop_drop] at this
 have t5 : (cs.drop 2).take 16 = cs.drop 2 := List.take_of_length_le (by simp; omega)
 rw [t5] at hl
 have q0 := q 0
 rw [List.drop_zero] at q0 e0
 rw [q0, q 1, e0, e1, hl]
 simp [grV, arrV]
theorem arg_gr {v : Value} {d : DataW H} {p : List MemPlace} {b0 : Nat} (hv : Value.okWide Tryz.prog w .any b0 26 v) (h : DataW.Trod enc Tryz.prog w base spare held 26 v d p) :
    ∃ e A c, ∃ V : List Vd, ∃ Gl : List Int, v = .agg (grV e (.slice A V.length c) (arrV .u8 Gl)) /\ VdsAt w A V /\ keysOk V /\ V.length <= c /\ Gl.length = 16 := by
 obtain ⟨cs, rfl, hsz⟩ := okWide_struct Tryz.underlying26 hv
 obtain ⟨fuel, hf⟩ := h
 obtain ⟨e, A, c, V, Gl, e2, h1, h2, h3, h4⟩ := open_grJ hf
 refine ⟨e, A, c, V, Gl, ?_, h1, h2, h3, h4⟩
 have e3 : cs.toList = (grV e (.slice A V.length c) (arrV .u8 Gl)).toList := e2
 rw [Array.toList_inj.1 e3]
end
end
section
open Go.RowKit Go.ChangeShapes Go.WideShapes
theorem own : ownKnob Tryz.prog.godebug = none := by kernel_rfl
def sentText : DataW Unit -> List UInt8
 | .iface _ (.ptr (.agg [.lit (.string t)])) => t
 | _ => []
def sentName : String := match (Rows.laid_quorate_api_ErrRange : DataW Unit) with
 | .iface n _ => n
 | _ => default
def sent (t : List UInt8) : DataW Unit := .iface sentName (.ptr (.agg [.lit (.string t)]))
theorem sentType (u : TypeId) (h : Tryz.prog.typeName? 3 u = some sentName) : u = 234 :=
 typeName_ptr_named (nm := "errors.errorString") (by kernel_rfl) (by kernel_rfl) (by decide) u (h.trans (by decide +kernel))
theorem cellsStr : Tryz.prog.cellsOf 260 = 1 := by kernel_rfl
theorem cellsString : Tryz.prog.cellsOf 9 = 1 := by kernel_rfl
theorem laid_head {n : String} {text : List UInt8} {r : List (String × DataW Unit)} {W : World} {g : Nat}
    (h : laidMet Tryz.prog ((n, sent text) :: r) W) (hg : Tryz.prog.globalNamed n = some g) (ht : (Tryz.prog.globals[g]?).map (·.type) = some 40) :
    ∃ (a : Addr) (s : ByteArray) (c : Array Value) (t : TypeId), W.cell? ⟨g, 0, none⟩ = some (errV a) /\ W.cell? a = some (.string s) /\ s.data.toList = text /\ W.heap[a.block]? = some (.cells c t (0, 0)) := by
 obtain ⟨ps, ⟨g0, t0, cs0, f0, p0, q0, hg0, ht0, hv0, hd0, _, e0⟩, _, hrows⟩ := h
 obtain rfl := Option.some.inj (hg.symm.trans hg0)
 obtain rfl := Option.some.inj (ht.symm.trans ht0)
 subst e0
 obtain ⟨l0⟩ := cs0
 have ok0 : ∀ u v, l0 = [.iface u v] -> Value.okWide Tryz.prog W .any 0 u v := fun u v e => by
  subst e
  exact (hrows g 0 (by simp [MemPlace.row])).2 u v (by simpa using World.var?_cell hg0 hv0 0)
 obtain ⟨a0, s0, rfl, hc0, hs0, hz0, rfl⟩ := errorString_of_trod Tryz.underlying40 sentType Tryz.underlying234 Tryz.underlying260 rfl rfl Tryz.underlying9 cellsStr cellsString hd0 ok0
 obtain ⟨c0, t0, hb0⟩ := (hrows a0.block a0.off (by simp [MemPlace.row])).1
 exact ⟨a0, s0, c0, t0, by simpa using World.var?_cell hg0 hv0 0, hc0, hs0, hb0⟩
theorem laid_each {W : World} : ∀ (L : List (String × DataW Unit)), laidMet Tryz.prog L W -> ∀ x ∈ L, x.2 = sent (sentText x.2) -> (∃ g, Tryz.prog.globalNamed x.1 = some g /\ (Tryz.prog.globals[g]?).map (·.type) = some 40) ->
    ∃ (g : Nat) (a : Addr) (s : ByteArray) (c : Array Value) (t : TypeId), Tryz.prog.globalNamed x.1 = some g /\ W.cell? ⟨g, 0, none⟩ = some (errV a) /\ W.cell? a = some (.string s) /\ s.data.toList = sentText x.2 /\ W.heap[a.block]? = some (.cells c t (0, 0))
 | [], _, _, hx, _, _ => by cases hx
 | y :: r, h, x, hx, e, hg => by
  rcases List.mem_cons.1 hx with rfl | hx
  · obtain ⟨g, hg, ht⟩ := hg
    obtain ⟨n, d⟩ := x
    simp only at e hg
    rw [e] at h
    obtain ⟨a, s, c, t, h1, h2, h3, h4⟩ := laid_head h hg ht
    exact ⟨g, a, s, c, t, hg, h1, h2, h3, h4⟩
  · exact laid_each r h.tail x hx e hg
def allErrs : List (String × DataW Unit) := Rows.epochsChangesRow.laid.take 18
theorem all_names : (allErrs.map fun x => Tryz.prog.globalNamed x.1) = gix.map some := by kernel_rfl
theorem all_types : (gix.all fun g => (Tryz.prog.globals[g]?).map (·.type) == some 40) = true := by kernel_rfl
theorem all_texts : (allErrs.map fun x => sentText x.2).Nodup := by decide +kernel
theorem all_sent : ∀ x ∈ allErrs, x.2 = sent (sentText x.2) := by
 intro x hx
 simp only [allErrs, Rows.epochsChangesRow, List.take_succ_cons, List.take_zero, List.mem_cons, List.not_mem_nil, or_false] at hx
 rcases hx with rfl | rfl | rfl | rfl | rfl | rfl | rfl | rfl | rfl | rfl | rfl | rfl | rfl | rfl | rfl | rfl | rfl | rfl <;> rfl
theorem addr_head {a : Addr} {W : World} {v : Value} (h : W.cell? a = some v) : a.block < W.heap.size := World.block_lt_of_cell? W a h
theorem err_key {L : List (String × DataW Unit)} {W : World} (h : laidMet Tryz.prog L W) (i : Nat) (hi : i < 18) (hm : ∀ h : i < allErrs.length, allErrs[i] ∈ L) :
    ∃ (a : Addr) (s : ByteArray) (c : Array Value) (t : TypeId), W.cell? ⟨gix.getD i 0, 0, none⟩ = some (errV a) /\ W.cell? a = some (.string s) /\ some s.data.toList = (allErrs.map fun x => sentText x.2)[i]? /\ W.heap[a.block]? = some (.cells c t (0, 0)) := by
 have hl : allErrs.length = 18 := rfl
 have hi' : i < allErrs.length := by omega
 have hgl : i < gix.length := by simpa [gix] using hi
 have hn : (allErrs.map fun x => Tryz.prog.globalNamed x.1)[i]? = (gix.map some)[i]? := by rw [all_names]
 simp only [List.getElem?_map, List.getElem?_eq_getElem hi', List.getElem?_eq_getElem hgl, Option.map_some, Option.some.injEq] at hn
 obtain ⟨g, a, s, c, t, h1, h2, h3, h4, h5⟩ := laid_each L h allErrs[i] (hm hi') (all_sent _ (List.getElem_mem hi')) ⟨gix[i], hn, by simpa using List.all_eq_true.1 all_types gix[i] (List.getElem_mem hgl)⟩
 have h1 : gix[i] = g := Option.some.inj (hn.symm.trans h1)
 refine ⟨a, s, c, t, ?_, h3, ?_, h5⟩
 · rw [List.getD, List.getElem?_eq_getElem hgl, h1]; exact h2
 · rw [h4, List.getElem?_map, List.getElem?_eq_getElem hi']; rfl
theorem errs_of_laid {L : List (String × DataW Unit)} {W : World} (h : laidMetH Tryz.prog L W) (hp : (L.all fun x => x.2.handleName?.isNone) = true) (hm : ∀ x ∈ allErrs, x ∈ L) : ∃ E, ErrEnv W W.heap.size E := by
 rw [MakeChecks.laidMetH_plain _ _ _ hp] at h
 have hl : allErrs.length = 18 := rfl
 have key := fun i hi => err_key (W := W) h i hi (fun hh => hm _ (List.getElem_mem hh))
 let E : Nat -> Addr := fun i => if h : i < 18 then (key i h).choose else ⟨0, 0, none⟩
 have hE : ∀ i (h : i < 18), ∃ (s : ByteArray) (c : Array Value) (t : TypeId), W.cell? ⟨gix.getD i 0, 0, none⟩ = some (errV (E i)) /\ W.cell? (E i) = some (.string s) /\ some s.data.toList = (allErrs.map fun x => sentText x.2)[i]? /\ W.heap[(E i).block]? = some (.cells c t (0, 0)) := by
  intro i h
  have := (key i h).choose_spec
  simpa [E, h] using this
 refine ⟨E, fun i hi => ?_, fun i hi => ?_, fun i j hi hj e => ?_⟩
 · obtain ⟨s, c, t, h1, _⟩ := hE i hi
   exact ⟨h1, addr_head h1⟩
 · obtain ⟨s, c, t, _, h2, _, h4⟩ := hE i hi
   exact ⟨addr_head h2, c, t, h4⟩
 · obtain ⟨s, _, _, _, h2, h3, _⟩ := hE i hi
   obtain ⟨s', _, _, _, h2', h3', _⟩ := hE j hj
   rw [e, h2'] at h2
   injection h2 with h2
   injection h2 with h2
   subst h2
   exact (List.getElem?_inj (by simpa [hl] using hi) all_texts).1 (h3.symm.trans h3')
theorem rounds_head {r : List (String × DataW Unit)} {W : World} (h : laidMet Tryz.prog (("quorate/hash.rounds", Rows.laid_quorate_hash_rounds) :: r) W) : Rounds W := by
 obtain ⟨ps, ⟨g0, t0, cs0, f0, p0, q0, hg0, ht0, hv0, hd0, _, e0⟩, _, hrows⟩ := h
 obtain rfl : g0 = 18 := Option.some.inj (hg0.symm.trans (show Tryz.prog.globalNamed "quorate/hash.rounds" = some 18 by kernel_rfl))
 obtain rfl : t0 = 148 := Option.some.inj (ht0.symm.trans (show (Tryz.prog.globals[18]?).map (·.type) = some 148 by kernel_rfl))
 obtain ⟨l, hcs, hl, hx, _⟩ := um Tryz.underlying148 Tryz.underlying147 (by kernel_rfl) (by kernel_rfl) hd0
 have hk : l = kS := by
  have h1 := congrArg Prod.fst hx
  dsimp only at h1
  have h2 : (Rows.laid_quorate_hash_rounds : DataW Unit) = .agg (kS.map fun z => .lit (.int .u32 z)) := rfl
  rw [h2] at h1
  injection h1 with h1
  have hinj : ∀ a b : List Int, (a.map fun z => (DataW.lit (.int .u32 z) : DataW Unit)) = b.map (fun z => .lit (.int .u32 z)) -> a = b := by
   intro a
   induction a with
   | nil => intro b hb; cases b with
    | nil => rfl
    | cons y r => cases hb
   | cons x s ih => intro b hb; cases b with
    | nil => cases hb
    | cons y r =>
     simp only [List.map_cons, List.cons.injEq] at hb
     obtain ⟨hb1, hb2⟩ := hb
     injection hb1 with hb1
     injection hb1 with _ hb1
     rw [hb1, ih r hb2]
  exact (hinj _ _ h1).symm
 have harr : cs0 = arrV .u32 kS := by
  rw [<- hk]
  apply Array.ext'
  rw [hcs]
 subst harr
 have h0 := (hrows 18 0 (by subst e0; simp [MemPlace.row, uw])).1
 obtain ⟨c, t, hc⟩ := h0
 have hcv : W.var? Tryz.prog "quorate/hash.rounds" = some c := by
  simp [World.var?, hg0, hc]
 rw [hcv] at hv0
 obtain rfl := Option.some.inj hv0
 exact ⟨t, hc⟩
theorem rounds_in {W : World} : ∀ (L : List (String × DataW Unit)), laidMet Tryz.prog L W -> ("quorate/hash.rounds", Rows.laid_quorate_hash_rounds) ∈ L -> Rounds W
 | [], _, hx => by cases hx
 | y :: r, h, hx => by
  rcases List.mem_cons.1 hx with e | hx
  · subst e; exact rounds_head h
  · exact rounds_in r h.tail hx
theorem rounds_of_laid {L : List (String × DataW Unit)} {W : World} (h : laidMetH Tryz.prog L W) (hp : (L.all fun x => x.2.handleName?.isNone) = true) (hm : ("quorate/hash.rounds", Rows.laid_quorate_hash_rounds) ∈ L) : Rounds W := by
 rw [MakeChecks.laidMetH_plain _ _ _ hp] at h
 exact rounds_in L h hm
end
end Go.Proofs.YtigafnbofmiknaaGreatDoor
