/-
  The walk of the law FnTreeGet, out of the contracts.
-/
import Derived.Lib.QuietBelow
import Derived.Test.YtolfeljefdgikaaDoorHDrawGet
import Derived.Test.YtolfeljefdgikaaDoorHImplGet
import Derived.Test.YtolfeljefdgikaaDoorHTreeGet
import Derived.Test.YtolfeljefdgikaaDoorHEqEnt
import Derived.Test.YtolfeljefdgikaaDoorHDoSz
namespace Go.Proofs.YtolfeljefdgikaaDoor
open Go.RowKit Go.Lib Go.Sort
attribute [local go_sem] eq_ent guard_ent

set_option maxHeartbeats 4000000 in
set_option maxRecDepth 100000 in
theorem walk_fnTreeGet (ae : Int → Addr) (a : Option Addr) (len cap : Nat) (zs : List Int) (w : World) (hErr : Errs2 w ae) (hw : IsRow .u8 w a len cap zs) :
    Calls Tryd.prog 3 #[.slice a len cap] w fun e w' => e = .returned (.bool true) ∧ Below w.heap.size w w' := by
  have hC := hidR hw.cod
  have HEr := hidR hErr
  clear hw hErr
  by_cases hl : len ≤ 1048576
  · go_enter Tryd.func3, Tryd.ntmps3
    go_wp2_with fail
    refine (DrawTreeGet_any _ a len cap hl hC.out).mono ?_
    rintro e w1 ⟨v, es, s, rfl, hL, hS, hs, hB⟩
    obtain ⟨a1, g1, o1, c1, rfl, ha1, hE, hc1, -⟩ := hL
    have HB := hidR hB
    replace HEr := hidR (HEr.out.below hB)
    have HE := hidR hE
    have HA := hidR ha1
    have HZ : Hid (∀ e ∈ es, e.p.size ≤ 16777216 ∧ e.x.size ≤ 16777216) := fun e he => ⟨by have := (hS.2 e he).1; omega, by have := (hS.2 e he).2; omega⟩
    have hlen : es.length ≤ 17 := hS.1
    have hn1 : es.length ≤ 1048576 := by omega
    have hn2 : es.length ≤ 16777216 := by omega
    have hs2 : s.size ≤ 16777216 := by omega
    clear hB hC hE ha1 hS
    have HGi := hidR (fun (W : World) (u : ByteArray) (hu : u.size ≤ 16777216) (hEr : Errs2 W ae) (hW : Ents W g1 o1 es) => iTreeGet_any W a1 g1 o1 c1 es u ae hEr hn2 hu HZ.out HA.out hW)
    have HG1 := hidR (fun (W : World) (hEr : Errs2 W ae) (hW : Ents W g1 o1 es) => HGi.out W s hs2 hEr hW)
    have HGs := hidR (fun (W : World) (hW : Ents W g1 o1 es) => sTreeGet_any W a1 g1 o1 c1 es s hn2 hc1 HZ.out HA.out hW)
    have HTs := hidR (fun (W : World) (hW : Ents W g1 o1 es) => sTreeOk_any W a1 g1 o1 c1 es hn2 hc1 HZ.out HA.out hW)
    have HCn : Hid (treeE es = true → (tgetE es s).2 = (decide (cntE es s = 1) || isRoot s)) := fun h => get_count h s
    have HPa : Hid ((tgetE es s).2 = true → (tgetE es s).1.p = s) := fun h => get_path s h
    have HBad : Hid (treeE es = false → (tgetE es s).2 = false) := fun h => by rw [tget_bad h]
    obtain ⟨te, hte⟩ : ∃ te, (tgetE es s).1 = te := ⟨_, rfl⟩
    obtain ⟨th, hth⟩ : ∃ th, (tgetE es s).2 = th := ⟨_, rfl⟩
    rw [hte, hth] at HG1 HGs
    rw [hth] at HCn HPa HBad
    rw [hte] at HPa
    clear hte hth
    have hne : (th != th) = false := by simp
    have q1 : (te.p.toList == te.p.toList) = true := by simp
    have q2 : (te.d == te.d) = true := by simp
    have q3 : (te.x.toList == te.x.toList) = true := by simp
    go_wp2_with fail
    refine (HG1.out _ HEr.out HE.out).mono ?_
    rintro e w2 ⟨rfl, hB⟩
    replace HB := hidR (B3' HB.out hB)
    replace HEr := hidR (HEr.out.below hB)
    replace HE := hidR (HE.out.below hB)
    clear hB
    have hB : Below w2.heap.size w2 (w2.alloc (.cells #[.string te.p, .bool te.d, .string te.x] 27)) := (Below.refl _ _).alloc (Nat.le_refl _) _
    replace HB := hidR (B3' HB.out hB)
    replace HEr := hidR (HEr.out.below hB)
    replace HE := hidR (HE.out.below hB)
    clear hB
    have y0 : (w2.alloc (.cells #[.string te.p, .bool te.d, .string te.x] 27)).cell? ⟨w2.heap.size, 0, none⟩ = some (.string te.p) := by simp
    have y1 : (w2.alloc (.cells #[.string te.p, .bool te.d, .string te.x] 27)).cell? ⟨w2.heap.size, 1, none⟩ = some (.bool te.d) := by simp
    have y2 : (w2.alloc (.cells #[.string te.p, .bool te.d, .string te.x] 27)).cell? ⟨w2.heap.size, 2, none⟩ = some (.string te.x) := by simp
    have HY0 := hidR y0
    have HY1 := hidR y1
    have HY2 := hidR y2
    clear y0 y1 y2
    go_wp2_with fail
    refine (HGs.out _ HE.out).mono ?_
    rintro e w3 ⟨rfl, hB⟩
    replace HB := hidR (B3' HB.out hB)
    replace HEr := hidR (HEr.out.below hB)
    replace HE := hidR (HE.out.below hB)
    have HYn0 := hidR (below_cell hB HY0.out)
    clear HY0
    have HY0 := HYn0
    clear HYn0
    have HYn1 := hidR (below_cell hB HY1.out)
    clear HY1
    have HY1 := HYn1
    clear HYn1
    have HYn2 := hidR (below_cell hB HY2.out)
    clear HY2
    have HY2 := HYn2
    clear HYn2
    clear hB
    have hB : Below w3.heap.size w3 (w3.alloc (.cells #[.string te.p, .bool te.d, .string te.x] 27)) := (Below.refl _ _).alloc (Nat.le_refl _) _
    have HYn0 := hidR (below_cell hB HY0.out)
    clear HY0
    have HY0 := HYn0
    clear HYn0
    have HYn1 := hidR (below_cell hB HY1.out)
    clear HY1
    have HY1 := HYn1
    clear HYn1
    have HYn2 := hidR (below_cell hB HY2.out)
    clear HY2
    have HY2 := HYn2
    clear HYn2
    clear hB
    have hB : Below w3.heap.size w3 (w3.alloc (.cells #[.string te.p, .bool te.d, .string te.x] 27)) := (Below.refl _ _).alloc (Nat.le_refl _) _
    replace HB := hidR (B3' HB.out hB)
    replace HEr := hidR (HEr.out.below hB)
    replace HE := hidR (HE.out.below hB)
    clear hB
    have x0 : (w3.alloc (.cells #[.string te.p, .bool te.d, .string te.x] 27)).cell? ⟨w3.heap.size, 0, none⟩ = some (.string te.p) := by simp
    have x1 : (w3.alloc (.cells #[.string te.p, .bool te.d, .string te.x] 27)).cell? ⟨w3.heap.size, 1, none⟩ = some (.bool te.d) := by simp
    have x2 : (w3.alloc (.cells #[.string te.p, .bool te.d, .string te.x] 27)).cell? ⟨w3.heap.size, 2, none⟩ = some (.string te.x) := by simp
    have y0 := HY0.out
    have y1 := HY1.out
    have y2 := HY2.out
    cases htr : treeE es with
    | false =>
      rw [htr] at HTs
      have hth := HBad.out htr
      subst hth
      go_wp2_with fail
      refine (HTs.out _ HE.out).mono ?_
      rintro e w4 ⟨rfl, hB⟩
      replace HB := hidR (B3' HB.out hB)
      clear x0 x1 x2 y0 y1 y2
      clear hB
      go_wp2
      go_ret
      exact ⟨rfl, HB.out⟩
    | true =>
      rw [htr] at HTs
      have hcn := HCn.out htr
      have HRo := hidR (fun (W : World) (hEr : Errs2 W ae) (hW : Ents W g1 o1 es) => HGi.out W ⟨#[47]⟩ (by decide) hEr hW)
      rw [tget_root htr] at HRo
      go_wp2_with fail
      refine (HTs.out _ HE.out).mono ?_
      rintro e w4 ⟨rfl, hB⟩
      replace HB := hidR (B3' HB.out hB)
      replace HEr := hidR (HEr.out.below hB)
      replace HE := hidR (HE.out.below hB)
      have HYn0 := hidR (below_cell hB HY0.out)
      clear HY0
      have HY0 := HYn0
      clear HYn0
      have HYn1 := hidR (below_cell hB HY1.out)
      clear HY1
      have HY1 := HYn1
      clear HYn1
      have HYn2 := hidR (below_cell hB HY2.out)
      clear HY2
      have HY2 := HYn2
      clear HYn2
      clear x0 x1 x2 y0 y1 y2
      clear hB
      go_wp2_with fail
      refine (HRo.out _ HEr.out HE.out).mono ?_
      rintro e w5 ⟨rfl, hB⟩
      replace HB := hidR (B3' HB.out hB)
      replace HEr := hidR (HEr.out.below hB)
      replace HE := hidR (HE.out.below hB)
      have HYn0 := hidR (below_cell hB HY0.out)
      clear HY0
      have HY0 := HYn0
      clear HYn0
      have HYn1 := hidR (below_cell hB HY1.out)
      clear HY1
      have HY1 := HYn1
      clear HYn1
      have HYn2 := hidR (below_cell hB HY2.out)
      clear HY2
      have HY2 := HYn2
      clear HYn2
      clear hB
      have hB : Below w5.heap.size w5 (w5.alloc (.cells #[.string ⟨#[47]⟩, .bool true, .string ⟨#[]⟩] 27)) := (Below.refl _ _).alloc (Nat.le_refl _) _
      have HYn0 := hidR (below_cell hB HY0.out)
      clear HY0
      have HY0 := HYn0
      clear HYn0
      have HYn1 := hidR (below_cell hB HY1.out)
      clear HY1
      have HY1 := HYn1
      clear HYn1
      have HYn2 := hidR (below_cell hB HY2.out)
      clear HY2
      have HY2 := HYn2
      clear HYn2
      clear hB
      have hB : Below w5.heap.size w5 (w5.alloc (.cells #[.string ⟨#[47]⟩, .bool true, .string ⟨#[]⟩] 27)) := (Below.refl _ _).alloc (Nat.le_refl _) _
      replace HB := hidR (B3' HB.out hB)
      replace HEr := hidR (HEr.out.below hB)
      replace HE := hidR (HE.out.below hB)
      clear hB
      have HR0 : Hid ((w5.alloc (.cells #[.string ⟨#[47]⟩, .bool true, .string ⟨#[]⟩] 27)).cell? ⟨w5.heap.size, 0, none⟩ = some (.string ⟨#[47]⟩)) := by show _ = _; simp
      have HR1 : Hid ((w5.alloc (.cells #[.string ⟨#[47]⟩, .bool true, .string ⟨#[]⟩] 27)).cell? ⟨w5.heap.size, 1, none⟩ = some (.bool true)) := by show _ = _; simp
      have HR2 : Hid ((w5.alloc (.cells #[.string ⟨#[47]⟩, .bool true, .string ⟨#[]⟩] 27)).cell? ⟨w5.heap.size, 2, none⟩ = some (.string ⟨#[]⟩)) := by show _ = _; simp
      have HSelf := hidR (fun (e : E) (he : e ∈ es) => tget_self htr he)
      go_wp2_with fail
      go_loopw [11, 12] (fun nv iv wl => ∃ k : Nat, k ≤ es.length ∧ iv = .int .i64 k ∧ nv = .int .i64 (cntE (es.take k) s : Int) ∧ Hid (Below w.heap.size w wl) ∧ Hid (Errs2 wl ae) ∧ Hid (Ents wl g1 o1 es) ∧ Hid (wl.cell? ⟨w2.heap.size, 0, none⟩ = some (.string te.p)) ∧ Hid (wl.cell? ⟨w5.heap.size, 0, none⟩ = some (.string ⟨#[47]⟩)) ∧ Hid (wl.cell? ⟨w5.heap.size, 1, none⟩ = some (.bool true)) ∧ Hid (wl.cell? ⟨w5.heap.size, 2, none⟩ = some (.string ⟨#[]⟩))) (fun _ iv _ => es.length - (RowKit.intOf iv).toNat)
      case atStart => exact ⟨0, Nat.zero_le _, rfl, rfl, HB, HEr, HE, HY0, HR0, HR1, HR2⟩
      case round =>
        clear HB HEr HE HY0 HY1 HY2 HR0 HR1 HR2
        obtain ⟨k, hk, rfl, rfl, HB, HEr, HE, HY0, HR0, HR1, HR2⟩ := hrel
        have hcl := cnt_le (es.take k) s
        rw [List.length_take] at hcl
        by_cases hlt : k < es.length
        · obtain rfl := HA.out (by omega)
          obtain ⟨c0, c1', c2⟩ := HE.out k hlt
          have HSc := hidR (cnt_succ es s k hlt)
          obtain ⟨hz1, -⟩ := HZ.out es[k] (List.getElem_mem _)
          have HGk := hidR (fun (W : World) (hEr : Errs2 W ae) (hW : Ents W g1 o1 es) => HGi.out W es[k].p hz1 hEr hW)
          rw [HSelf.out es[k] (List.getElem_mem _)] at HGk
          obtain ⟨ke, hke⟩ : ∃ ke, es[k] = ke := ⟨_, rfl⟩
          have HK3 := hidR (fun (W : World) (hW : Ents W g1 o1 es) => hW k hlt)
          rw [hke] at c0 HGk HSc hz1 HK3
          obtain ⟨cn, hcn2⟩ : ∃ cn, cntE (es.take k) s = cn := ⟨_, rfl⟩
          rw [hcn2] at HSc hcl ⊢
          clear hke hcn2 c1' c2
          go_wp2_with fail
          refine (HGk.out _ HEr.out HE.out).mono ?_
          rintro e w21 ⟨rfl, hB⟩
          replace HB := hidR (B3' HB.out hB)
          replace HEr := hidR (HEr.out.below hB)
          replace HE := hidR (HE.out.below hB)
          have HVn0 := hidR (below_cell hB HY0.out)
          clear HY0
          have HY0 := HVn0
          clear HVn0
          have HVn1 := hidR (below_cell hB HR0.out)
          clear HR0
          have HR0 := HVn1
          clear HVn1
          have HVn2 := hidR (below_cell hB HR1.out)
          clear HR1
          have HR1 := HVn2
          clear HVn2
          have HVn3 := hidR (below_cell hB HR2.out)
          clear HR2
          have HR2 := HVn3
          clear HVn3
          clear c0
          clear hB
          have hB : Below w21.heap.size w21 (w21.alloc (.cells #[.string ke.p, .bool ke.d, .string ke.x] 27)) := (Below.refl _ _).alloc (Nat.le_refl _) _
          have HVn0 := hidR (below_cell hB HY0.out)
          clear HY0
          have HY0 := HVn0
          clear HVn0
          have HVn1 := hidR (below_cell hB HR0.out)
          clear HR0
          have HR0 := HVn1
          clear HVn1
          have HVn2 := hidR (below_cell hB HR1.out)
          clear HR1
          have HR1 := HVn2
          clear HVn2
          have HVn3 := hidR (below_cell hB HR2.out)
          clear HR2
          have HR2 := HVn3
          clear HVn3
          clear hB
          have hB : Below w21.heap.size w21 (w21.alloc (.cells #[.string ke.p, .bool ke.d, .string ke.x] 27)) := (Below.refl _ _).alloc (Nat.le_refl _) _
          replace HB := hidR (B3' HB.out hB)
          replace HEr := hidR (HEr.out.below hB)
          replace HE := hidR (HE.out.below hB)
          clear hB
          obtain ⟨c0, c1', c2⟩ := HK3.out _ HE.out
          have v0 : (w21.alloc (.cells #[.string ke.p, .bool ke.d, .string ke.x] 27)).cell? ⟨w21.heap.size, 0, none⟩ = some (.string ke.p) := by simp
          have v1 : (w21.alloc (.cells #[.string ke.p, .bool ke.d, .string ke.x] 27)).cell? ⟨w21.heap.size, 1, none⟩ = some (.bool ke.d) := by simp
          have v2 : (w21.alloc (.cells #[.string ke.p, .bool ke.d, .string ke.x] 27)).cell? ⟨w21.heap.size, 2, none⟩ = some (.string ke.x) := by simp
          have p1 : (ke.p.toList == ke.p.toList) = true := by simp
          have p2 : (ke.d == ke.d) = true := by simp
          have p3 : (ke.x.toList == ke.x.toList) = true := by simp
          have x0' := cell_regrown c0
          have x1' := cell_regrown c1'
          have x2' := cell_regrown c2
          have x3' := cell_regrown v0
          have x4' := cell_regrown v1
          have x5' := cell_regrown v2
          go_wp2
          refine wp_region_quiet_below (by kernel_rfl) (by kernel_rfl) ?_
          repeat (go_big_quiet_step (fail))
          refine wpQuiet_nil ?_
          intro w22 hw'
          obtain ⟨⟨dq, osq⟩, hw''⟩ := hw'
          have hB : Below (w21.alloc (.cells #[.string ke.p, .bool ke.d, .string ke.x] 27)).heap.size (w21.alloc (.cells #[.string ke.p, .bool ke.d, .string ke.x] 27)) w22 := by rw [hw'']; exact below_regrown (w21.alloc (.cells #[.string ke.p, .bool ke.d, .string ke.x] 27)) dq osq
          clear hw'' x0' x1' x2' x3' x4' x5' c0 c1' c2 v0 v1 v2
          replace HB := hidR (B3' HB.out hB)
          replace HEr := hidR (HEr.out.below hB)
          replace HE := hidR (HE.out.below hB)
          have HVn0 := hidR (below_cell hB HY0.out)
          clear HY0
          have HY0 := HVn0
          clear HVn0
          have HVn1 := hidR (below_cell hB HR0.out)
          clear HR0
          have HR0 := HVn1
          clear HVn1
          have HVn2 := hidR (below_cell hB HR1.out)
          clear HR1
          have HR1 := HVn2
          clear HVn2
          have HVn3 := hidR (below_cell hB HR2.out)
          clear HR2
          have HR2 := HVn3
          clear HVn3
          clear hB
          obtain ⟨c0, c1', c2⟩ := HK3.out _ HE.out
          clear c1' c2
          cases hks : (ke.p.toList == s.toList) with
          | true =>
            rw [hks] at HSc
            have hks' : ke.p.toList = s.toList := by simpa using hks
            go_wp2
            refine ⟨⟨k + 1, by omega, by go_num, ?_, HB, HEr, HE, HY0, HR0, HR1, HR2⟩, ?_⟩
            · rw [HSc.out]
              rfl
            · simp [RowKit.intOf]
              omega
          | false =>
            rw [hks] at HSc
            have hks' : ¬ ke.p.toList = s.toList := by simpa using hks
            go_wp2
            refine ⟨⟨k + 1, by omega, by go_num, ?_, HB, HEr, HE, HY0, HR0, HR1, HR2⟩, ?_⟩
            · rw [HSc.out]
              rfl
            · simp [RowKit.intOf]
              omega
        · have hke : k = es.length := by omega
          subst hke
          rw [List.take_length]
          obtain ⟨cn, hcn2⟩ : ∃ cn, cntE es s = cn := ⟨_, rfl⟩
          rw [hcn2] at hcn ⊢
          have y0 := HY0.out
          have z0 := HR0.out
          have z1 := HR1.out
          have z2 := HR2.out
          have hroot : ((#[47] : Array UInt8).toList == [47]) = true := by decide
          have hcs : (cn = 1 ∧ th = true ∧ isRoot s = true) ∨ (cn = 1 ∧ th = true ∧ isRoot s = false) ∨ (cn ≠ 1 ∧ th = true ∧ isRoot s = true) ∨ (cn ≠ 1 ∧ th = false ∧ isRoot s = false) := by
            by_cases h : cn = 1
            · cases hr : isRoot s with
              | true => exact .inl ⟨h, by rw [hcn, hr, Bool.or_true], rfl⟩
              | false => exact .inr (.inl ⟨h, by rw [hcn, hr]; simp [h], rfl⟩)
            · cases hr : isRoot s with
              | true => exact .inr (.inr (.inl ⟨h, by rw [hcn, hr, Bool.or_true], rfl⟩))
              | false => exact .inr (.inr (.inr ⟨h, by rw [hcn, hr]; simp [h], rfl⟩))
          clear hcn hcn2
          rcases hcs with ⟨rfl, rfl, hr⟩ | ⟨rfl, rfl, hr⟩ | ⟨h1, rfl, hr⟩ | ⟨h1, rfl, hr⟩
          · have hr' : (s.toList == [47]) = true := hr
            have hr2 : s.toList = [47] := by simpa using hr'
            have hps : te.p = s := HPa.out rfl
            rw [hps] at y0
            have hss : (s.toList == s.toList) = true := by simp
            clear hps
            go_wp2
            go_ret
            exact ⟨rfl, HB.out⟩
          · have hr' : (s.toList == [47]) = false := hr
            have hr2 : ¬ s.toList = [47] := by simpa using hr'
            have hps : te.p = s := HPa.out rfl
            rw [hps] at y0
            have hss : (s.toList == s.toList) = true := by simp
            clear hps
            go_wp2
            go_ret
            exact ⟨rfl, HB.out⟩
          · have hr' : (s.toList == [47]) = true := hr
            have hr2 : s.toList = [47] := by simpa using hr'
            have h1' : ((cn : Int) == 1) = false := by rw [beq_eq_false_iff_ne]; omega
            have hps : te.p = s := HPa.out rfl
            rw [hps] at y0
            have hss : (s.toList == s.toList) = true := by simp
            clear hps
            go_wp2
            go_ret
            exact ⟨rfl, HB.out⟩
          · have hr' : (s.toList == [47]) = false := hr
            have hr2 : ¬ s.toList = [47] := by simpa using hr'
            have h1' : ((cn : Int) == 1) = false := by rw [beq_eq_false_iff_ne]; omega
            go_wp2
            go_ret
            exact ⟨rfl, HB.out⟩
  · go_enter Tryd.func3, Tryd.ntmps3
    go_wp2
    go_ret
    exact ⟨rfl, Below.refl _ _⟩
end Go.Proofs.YtolfeljefdgikaaDoor
