import Derived.Test.YtoaipphccjkphaaDoorHPk22
import Derived.Test.YtoaipphccjkphaaDoorHPk21
import Derived.Test.YtoaipphccjkphaaDoorHRdList
namespace Go.Proofs.YtoaipphccjkphaaDoor.Mg
open Go.RowKit Go.Lib
structure Errs3 (w : World) (ae : Int → Addr) (bad : Value) : Prop where
 two : Errs2 w ae
 badC : w.cell? ⟨0, 0, none⟩ = some (.iface 132 bad)
theorem Errs3.below {w w' : World} {ae : Int → Addr} {bad : Value} (h : Errs3 w ae bad) (hb : Below w.heap.size w w') : Errs3 w' ae bad := ⟨h.two.below hb, below_cell hb h.badC⟩
set_option maxHeartbeats 4000000 in
set_option maxRecDepth 100000 in
theorem iMerge_any (w : World) (v1 v2 v3 : Value) (t a c : List E) (ae : Int → Addr) (bad : Value) (hErr : Errs3 w ae bad) (h1 : Row w v1 t) (h2 : Row w v2 a) (h3 : Row w v3 c) :
  Calls Tryd.prog 13 #[v1, v2, v3] w fun r w' => ∃ v, r = .returned (.tuple #[v, .bool (mergeB t a c)]) ∧ OwnE w' w.heap.size v (mergeE t a c) ∧ Below w.heap.size w w' := by
 have hff : ∀ f, Fence.wide.fn f := fun _ => trivial; cases ht : trees3 t a c with
 | false =>
  have hc : mergeB t a c = false := by unfold mergeB; rw [ht]; rfl
  have hc2 : mergeE t a c = [] := by unfold mergeE; rw [hc]; rfl
  rw [hc, hc2]; have HM := hidE (mergeOf_no w v1 v2 v3 t a c ae bad hErr.two hErr.badC h1 h2 h3 ht); clear h1 h2 h3 hErr; go_enter Tryd.func13, Tryd.ntmps13
  go_wp2_with fail
  refine HM.out.mono ?_; rintro e w1 ⟨rfl, hB1⟩; have HB1 := hidE hB1; clear hB1; go_wp2
  go_ret2
  exact ⟨_, rfl, World.ownsRow_nil _ _ _ _, HB1.out⟩
 | true =>
  have HMb : Hid (mergeB t a c = ((clashL t a c (pathsE t a c)).isEmpty && treeE (mergeL t a c (pathsE t a c)))) := by show _ = _; unfold mergeB; rw [ht]; rfl
  have HMe : Hid (mergeE t a c = if mergeB t a c = true then mergeL t a c (pathsE t a c) else []) := show _ = _ from rfl; have HM := hidE (mergeOf_yes w v1 v2 v3 t a c ae hErr.two h1 h2 h3 ht); obtain ⟨t1, t2, t3⟩ := trees_parts ht; have l1 := (treeE_tr t1).2; have l2 := (treeE_tr t2).2; have l3 := (treeE_tr t3).2; have hpl := paths_len t a c; have hml := mergeL_len t a c (pathsE t a c); have HSm := hidE (mergeL_sm h1.sm h2.sm h3.sm (pathsE t a c)); have HE := hidE (fun (W : World) (h : Below w.heap.size w W) => hErr.two.below h); obtain ⟨ms, hms⟩ : ∃ ms, mergeL t a c (pathsE t a c) = ms := ⟨_, rfl⟩
  rw [hms] at HM HMb HMe HSm hml; obtain ⟨ss, hse⟩ : ∃ ss, clashL t a c (pathsE t a c) = ss := ⟨_, rfl⟩
  rw [hse] at HM HMb; have hm48 : ms.length ≤ 48 := by omega
  clear h1 h2 h3 hErr t1 t2 t3 hms hse hml hpl l1 l2 l3; go_enter Tryd.func13, Tryd.ntmps13
  go_wp2_with fail
  refine HM.out.mono ?_; rintro e w1 ⟨mv, ev, rfl, hO1, ⟨j1, j2⟩, hB1⟩; have HB1 := hidE hB1; have HO1 := hidE hO1; have hz1 := hB1.size; clear hB1 hO1; cases ss with
  | cons x xs =>
   obtain ⟨p, v, base, rfl, -, -⟩ := j2 (by simp); have hn : mergeB t a c = false := by rw [HMb.out]; rfl
   have hn2 : mergeE t a c = [] := by rw [HMe.out, hn]; rfl
   have HN := hidE (And.intro hn hn2); clear j1 j2 hn hn2; go_wp2
   go_ret2
   exact ⟨_, by rw [HN.out.1]; rfl, by rw [HN.out.2]; exact World.ownsRow_nil _ _ _ _, HB1.out⟩
  | nil =>
   obtain rfl := j1 rfl; have hR := OwnE.row HO1.out (by omega) HSm.out; have HT := hidE (hR.iOk ae (HE.out _ HB1.out)); have HMb2 : Hid (mergeB t a c = treeE ms) := by show _ = _; rw [HMb.out]; rfl
   have HMe2 : Hid (mergeE t a c = if treeE ms = true then ms else []) := by show _ = _; rw [HMe.out, HMb2.out]
   clear j1 j2 hR HMb HMe HM HE; cases htr : treeE ms with
   | false =>
    rw [htr] at HT HMb2 HMe2; go_wp2_with fail
    refine HT.out.mono ?_; rintro e w2 ⟨rfl, hB2⟩; have HB2 := hidE (B3G HB1.out hB2); clear hB2; go_wp2
    go_ret2
    exact ⟨_, by rw [HMb2.out]; rfl, by rw [HMe2.out]; exact World.ownsRow_nil _ _ _ _, HB2.out⟩
   | true =>
    rw [htr] at HT HMb2 HMe2; obtain ⟨am, gm, cm, rfl, ham, hEm, hcm⟩ := OwnE.ents HO1.out; have HF := hidE (fun (W : World) (h : Below w1.heap.size w1 W) => freshList_any W am gm 0 cm ms (by omega) HSm.out ham (hEm.below h)); clear ham hEm HO1; go_wp2_with fail
    refine HT.out.mono ?_; rintro e w2 ⟨rfl, hB2⟩; have HB2 := hidE (B3G HB1.out hB2); have HF2 := hidE (HF.out _ hB2); have hz2 := HB2.out.size; clear hB2 HF; go_wp2_with fail
    refine HF2.out.mono ?_; rintro e w3 ⟨v, rfl, hO3, hB3⟩; have HO3 := hidE (hO3.lower hz2); have HB3 := hidE (B3G HB2.out hB3); clear hO3 hB3; go_wp2
    go_ret2
    exact ⟨_, by rw [HMb2.out]; rfl, by rw [HMe2.out]; exact HO3.out, HB3.out⟩
end Go.Proofs.YtoaipphccjkphaaDoor.Mg
