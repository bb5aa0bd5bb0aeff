/-
  The walk of the law FnTreeDiffer, out of the contracts.
-/
import Derived.Lib.QuietBelow
import Derived.Deep.RegionHeld3
import Derived.Test.YtbcogekeoklddaaDoorHPk07
import Derived.Test.YtbcogekeoklddaaDoorHWpWords
import Derived.Test.YtbcogekeoklddaaDoorHImplGet
import Derived.Test.YtbcogekeoklddaaDoorHTurnAny
import Derived.Test.YtbcogekeoklddaaDoorHTurned
import Derived.Test.YtbcogekeoklddaaDoorHSameI
import Derived.Test.YtbcogekeoklddaaDoorHEqEnt
import Derived.Test.YtbcogekeoklddaaDoorHDoSz
namespace Go.Proofs.YtbcogekeoklddaaDoor
open Go.RowKit Go.Lib Go.Sort
attribute [local go_sem] eq_ent guard_ent

theorem turned_lenD (es fs : List E) : (turnedE es fs).length ≤ es.length + fs.length := by
  unfold turnedE
  split
  · unfold turnE
    rw [List.length_map]
    have h1 := List.length_filter_le (turnB es fs) (bothE es fs)
    have h2 := both_len es fs fs.length (Nat.le_refl _)
    rw [List.take_length] at h2
    omega
  · simp
theorem any_succ (ls : List ByteArray) (s : ByteArray) (k : Nat) (h : k < ls.length) : (ls.take (k + 1)).any (fun y => y.toList == s.toList) = ((ls.take k).any (fun y => y.toList == s.toList) || (ls[k].toList == s.toList)) := by
  rw [List.take_succ_eq_append_getElem h, List.any_append]; simp
theorem any_differ {es fs : List E} (h1 : treeE es = true) (h2 : treeE fs = true) {s : ByteArray} (hp : pathB s = true) {ls : List ByteArray} (hm : ∀ s, s ∈ ls ↔ lookE es s ≠ lookE fs s) :
    (ls.any (fun y => y.toList == s.toList)) = ((tgetE es s).2 != (tgetE fs s).2 || !(sameT1 (tgetE es s).1 (tgetE fs s).1)) := by
  have hy : s ∈ ls → (ls.any (fun y => y.toList == s.toList)) = true := fun h => by
    rw [List.any_eq_true]
    exact ⟨s, h, by simp⟩
  have hn : s ∉ ls → (ls.any (fun y => y.toList == s.toList)) = false := fun h => by
    rw [List.any_eq_false]
    intro y hy q
    rw [beqL, decide_eq_true_eq] at q
    exact h (q ▸ hy)
  rw [tget_look h1 (root_not_path hp), tget_look h2 (root_not_path hp)]
  have hs := sameT1_iff
  cases hl : lookE es s with
  | none =>
    cases hk : lookE fs s with
    | none =>
      have : s ∉ ls := fun q => (hm s).1 q (by rw [hl, hk])
      rw [hn this]
      simp [(hs noneE noneE).2 rfl]
    | some f =>
      have : s ∈ ls := (hm s).2 (by rw [hl, hk]; simp)
      rw [hy this]; rfl
  | some e =>
    cases hk : lookE fs s with
    | none =>
      have : s ∈ ls := (hm s).2 (by rw [hl, hk]; simp)
      rw [hy this]; rfl
    | some f =>
      by_cases hef : e = f
      · have : s ∉ ls := fun q => (hm s).1 q (by rw [hl, hk, hef])
        rw [hn this]
        simp [(hs e f).2 hef]
      · have : s ∈ ls := (hm s).2 (by rw [hl, hk]; simpa using hef)
        rw [hy this]
        have hne : sameT1 e f = false := by
          cases q : sameT1 e f with
          | false => rfl
          | true => exact absurd ((hs e f).1 q) hef
        simp [hne]
set_option maxHeartbeats 4000000 in
set_option maxRecDepth 100000 in
theorem walk_fnTreeDiffer (ae : Int → Addr) (a : Option Addr) (len cap : Nat) (zs : List Int) (w : World) (hErr : Errs2 w ae) (hw : IsRow .u8 w a len cap zs) :
    Calls Tryd.prog 3 #[.slice a len cap] w fun e w' => e = .returned (.bool true) ∧ Below w.heap.size w w' := by
  have hC := hidR hw.cod
  have HEr := hidR hErr
  clear hw hErr
  by_cases hl : len ≤ 1048576
  · go_enter Tryd.func3, Tryd.ntmps3
    go_wp2_with fail
    refine (DrawTreeTurned_any _ a len cap hl hC.out).mono ?_
    rintro e w1 ⟨v, v', es, fs, rfl, hL, hS, hL', hS', hB⟩
    obtain ⟨a1, g1, o1, c1, rfl, ha1, hE, hc1, -⟩ := hL
    obtain ⟨a2, g2, o2, c2, rfl, ha2, hF, hc2, -⟩ := hL'
    have HB := hidR hB
    replace HEr := hidR (HEr.out.below hB)
    have HE := hidR hE
    have HF := hidR hF
    have HA := hidR ha1
    have HA2 := hidR ha2
    have HZ : Hid (∀ e ∈ es, e.p.size ≤ 16777216 ∧ e.x.size ≤ 16777216) := fun e he => ⟨by have := (hS.2 e he).1; omega, by have := (hS.2 e he).2; omega⟩
    have HZ2 : Hid (∀ e ∈ fs, e.p.size ≤ 16777216 ∧ e.x.size ≤ 16777216) := fun e he => ⟨by have := (hS'.2 e he).1; omega, by have := (hS'.2 e he).2; omega⟩
    have hlen : es.length ≤ 17 := hS.1
    have hlen2 : fs.length ≤ 17 := hS'.1
    clear hB hC hE hF ha1 ha2 hS hS'
    have HTu := hidR (fun (W : World) (hEr : Errs2 W ae) (h1 : Ents W g1 o1 es) (h2 : Ents W g2 o2 fs) => iTurned_any W a1 g1 o1 c1 es a2 g2 o2 c2 fs ae hEr (by omega) (by omega) HZ.out HZ2.out HA.out HA2.out h1 h2)
    have HTb := hidR (fun (W : World) (hEr : Errs2 W ae) (h1 : Ents W g1 o1 es) (h2 : Ents W g2 o2 fs) => iTurned_any W a2 g2 o2 c2 fs a1 g1 o1 c1 es ae hEr (by omega) (by omega) HZ2.out HZ.out HA2.out HA.out h2 h1)
    have HTa := hidR (fun (W : World) (hEr : Errs2 W ae) (h1 : Ents W g1 o1 es) => iTurned_any W a1 g1 o1 c1 es a1 g1 o1 c1 es ae hEr (by omega) (by omega) HZ.out HZ.out HA.out HA.out h1 h1)
    have HTs := hidR (fun (W : World) (h1 : Ents W g1 o1 es) (h2 : Ents W g2 o2 fs) => sTreeTurned_any W a1 g1 o1 c1 es a2 g2 o2 c2 fs (by omega) (by omega) hc1 hc2 HZ.out HZ2.out HA.out HA2.out h1 h2)
    have HOa := hidR (fun (W : World) (hW : Ents W g1 o1 es) => sTreeOk_any W a1 g1 o1 c1 es (by omega) hc1 HZ.out HA.out hW)
    have HOb := hidR (fun (W : World) (hW : Ents W g2 o2 fs) => sTreeOk_any W a2 g2 o2 c2 fs (by omega) hc2 HZ2.out HA2.out hW)
    have HGa := hidR (fun (W : World) (u : ByteArray) (hu : u.size ≤ 16777216) (hEr : Errs2 W ae) (hW : Ents W g1 o1 es) => iTreeGet_any W a1 g1 o1 c1 es u ae hEr (by omega) hu HZ.out HA.out hW)
    have HGb := hidR (fun (W : World) (u : ByteArray) (hu : u.size ≤ 16777216) (hEr : Errs2 W ae) (hW : Ents W g2 o2 fs) => iTreeGet_any W a2 g2 o2 c2 fs u ae hEr (by omega) hu HZ2.out HA2.out hW)
    have HSm := hidR (fun (W : World) (h1 : Ents W g1 o1 es) (h2 : Ents W g2 o2 fs) => iTreeSame_any W a1 g1 o1 c1 es a2 g2 o2 c2 fs (by omega) (by omega) HA.out HA2.out h1 h2)
    rw [turned_comm fs es] at HTb
    rw [turned_self es] at HTa
    have HLn := hidR (turned_lenD es fs)
    have HBad : Hid (treeE es = false ∨ treeE fs = false → turnedE es fs = []) := fun h => turned_bad h
    have HMem : Hid (treeE es = true → treeE fs = true → (∀ s, s ∈ turnedE es fs ↔ lookE es s ≠ lookE fs s) ∧ (turnedE es fs = [] ↔ es = fs)) := fun h1 h2 => ⟨turned_mem h1 h2, turned_nil h1 h2⟩
    obtain ⟨ls, hls⟩ : ∃ ls, turnedE es fs = ls := ⟨_, rfl⟩
    rw [hls] at HTu HTb HTs HLn HBad HMem
    clear hls
    have hln : ls.length ≤ 34 := by have := HLn.out; omega
    go_wp2_with fail
    refine (HTu.out _ HEr.out HE.out HF.out).mono ?_
    rintro e w2 ⟨vl, rfl, hol, hB⟩
    replace HB := hidR (B3' HB.out hB)
    replace HEr := hidR (HEr.out.below hB)
    replace HE := hidR (HE.out.below hB)
    replace HF := hidR (HF.out.below hB)
    obtain ⟨al, gl, cl, rfl, hal, hSl⟩ := StrB.of_row hol
    have HS := hidR hSl
    have HAL := hidR hal
    clear hol hSl hal
    clear hB
    go_wp2_with fail
    refine (HTs.out _ HE.out HF.out).mono ?_
    rintro e w3 ⟨vm, rfl, ho3, hB⟩
    replace HB := hidR (B3' HB.out hB)
    replace HEr := hidR (HEr.out.below hB)
    replace HE := hidR (HE.out.below hB)
    replace HF := hidR (HF.out.below hB)
    replace HS := hidR (HS.out.below hB)
    obtain ⟨a3, g3, c3, rfl, ha3, hS3⟩ := StrB.of_row ho3
    have HS3 := hidR hS3
    have HA3 := hidR ha3
    clear ho3 hS3 ha3
    clear hB
    go_wp2_with fail
    refine (wpWords_same _ al gl cl a3 g3 c3 ls (by omega) HAL.out HA3.out HS.out HS3.out).mono ?_
    rintro e w4 ⟨rfl, hB⟩
    replace HB := hidR (B3' HB.out hB)
    replace HEr := hidR (HEr.out.below hB)
    replace HE := hidR (HE.out.below hB)
    replace HF := hidR (HF.out.below hB)
    replace HS := hidR (HS.out.below hB)
    clear HS3 HA3
    clear hB
    go_wp2_with fail
    refine (HTb.out _ HEr.out HE.out HF.out).mono ?_
    rintro e w5 ⟨vn, rfl, ho4, hB⟩
    replace HB := hidR (B3' HB.out hB)
    replace HEr := hidR (HEr.out.below hB)
    replace HE := hidR (HE.out.below hB)
    replace HF := hidR (HF.out.below hB)
    replace HS := hidR (HS.out.below hB)
    obtain ⟨a4, g4, c4, rfl, ha4, hS4⟩ := StrB.of_row ho4
    have HS4 := hidR hS4
    have HA4 := hidR ha4
    clear ho4 hS4 ha4
    clear hB
    go_wp2_with fail
    refine (wpWords_same _ al gl cl a4 g4 c4 ls (by omega) HAL.out HA4.out HS.out HS4.out).mono ?_
    rintro e w6 ⟨rfl, hB⟩
    replace HB := hidR (B3' HB.out hB)
    replace HEr := hidR (HEr.out.below hB)
    replace HE := hidR (HE.out.below hB)
    replace HF := hidR (HF.out.below hB)
    replace HS := hidR (HS.out.below hB)
    clear HS4 HA4
    clear hB
    go_wp2_with fail
    refine (HTa.out _ HEr.out HE.out).mono ?_
    rintro e w7 ⟨vo, rfl, ho5, hB⟩
    replace HB := hidR (B3' HB.out hB)
    replace HEr := hidR (HEr.out.below hB)
    replace HE := hidR (HE.out.below hB)
    replace HF := hidR (HF.out.below hB)
    replace HS := hidR (HS.out.below hB)
    obtain ⟨a5, g5, c5, rfl, -, -⟩ := StrB.of_row ho5
    clear ho5
    clear hB
    cases hta : treeE es with
    | false =>
      rw [hta] at HOa
      obtain rfl := HBad.out (.inl hta)
      go_wp2_with fail
      refine (HOa.out _ HE.out).mono ?_
      rintro e w8 ⟨rfl, hB⟩
      replace HB := hidR (B3' HB.out hB)
      clear hB
      go_wp2
      go_ret
      exact ⟨rfl, HB.out⟩
    | true =>
      rw [hta] at HOa
      cases htb : treeE fs with
      | false =>
        rw [htb] at HOb
        obtain rfl := HBad.out (.inr htb)
        go_wp2_with fail
        refine (HOa.out _ HE.out).mono ?_
        rintro e w8 ⟨rfl, hB⟩
        replace HB := hidR (B3' HB.out hB)
        replace HF := hidR (HF.out.below hB)
        clear hB
        go_wp2_with fail
        refine (HOb.out _ HF.out).mono ?_
        rintro e w9 ⟨rfl, hB⟩
        replace HB := hidR (B3' HB.out hB)
        clear hB
        go_wp2
        go_ret
        exact ⟨rfl, HB.out⟩
      | true =>
        rw [htb] at HOb
        obtain ⟨hmem, hnil⟩ := HMem.out hta htb
        have HMe := hidR hmem
        have HNi := hidR hnil
        clear hmem hnil HMem HBad
        go_wp2_with fail
        refine (HOa.out _ HE.out).mono ?_
        rintro e w8 ⟨rfl, hB⟩
        replace HB := hidR (B3' HB.out hB)
        replace HEr := hidR (HEr.out.below hB)
        replace HE := hidR (HE.out.below hB)
        replace HF := hidR (HF.out.below hB)
        replace HS := hidR (HS.out.below hB)
        clear hB
        go_wp2_with fail
        refine (HOb.out _ HF.out).mono ?_
        rintro e w9 ⟨rfl, hB⟩
        replace HB := hidR (B3' HB.out hB)
        replace HEr := hidR (HEr.out.below hB)
        replace HE := hidR (HE.out.below hB)
        replace HF := hidR (HF.out.below hB)
        replace HS := hidR (HS.out.below hB)
        clear hB
        go_wp2_with fail
        go_loopw [6, 7] (fun kv iv wl => ∃ n : Nat, n ≤ es.length + fs.length ∧ iv = .int .i64 n ∧ kv = .int .i64 n ∧ Hid (Below w.heap.size w wl) ∧ Hid (Errs2 wl ae) ∧ Hid (Ents wl g1 o1 es) ∧ Hid (Ents wl g2 o2 fs) ∧ Hid (StrB wl gl ls)) (fun _ iv _ => es.length + fs.length - (RowKit.intOf iv).toNat)
        case atStart => exact ⟨0, Nat.zero_le _, rfl, rfl, HB, HEr, HE, HF, HS⟩
        case round =>
          clear HB HEr HE HF HS
          obtain ⟨n, hn, rfl, rfl, HB, HEr, HE, HF, HS⟩ := hrel
          by_cases hlt : n < es.length + fs.length
          · have hlt' : (n : Int) < (es.length : Int) + (fs.length : Int) := by omega
            have hsp : (∃ h : n < es.length, True) ∨ (¬ n < es.length ∧ ∃ h : n - es.length < fs.length, True) := by
              by_cases h : n < es.length
              · exact .inl ⟨h, trivial⟩
              · exact .inr ⟨h, by omega, trivial⟩
            rcases hsp with ⟨hn1, -⟩ | ⟨hn1, hn2, -⟩
            · have hn1' : (n : Int) < (es.length : Int) := by omega
              obtain rfl := HA.out (by omega)
              obtain ⟨d0, -, -⟩ := HE.out n hn1
              have hpp : pathB es[n].p = true := (treeE_tr hta).1.path _ (List.getElem_mem _)
              obtain ⟨sp, hsp⟩ : ∃ sp, es[n].p = sp := ⟨_, rfl⟩
              rw [hsp] at d0 hpp
              clear hsp
              have hsz : sp.size ≤ 16777216 := by have := path_sizeD hpp; omega
              have HQa := hidR (fun (W : World) (hEr : Errs2 W ae) (hW : Ents W g1 o1 es) => HGa.out W sp hsz hEr hW)
              have HQb := hidR (fun (W : World) (hEr : Errs2 W ae) (hW : Ents W g2 o2 fs) => HGb.out W sp hsz hEr hW)
              have HIn : Hid (((ls.any (fun y => y.toList == sp.toList)) = ((tgetE es sp).2 != (tgetE fs sp).2 || !(sameT1 (tgetE es sp).1 (tgetE fs sp).1)))) := any_differ hta htb hpp HMe.out
              obtain ⟨xa, hxa⟩ : ∃ xa, tgetE es sp = xa := ⟨_, rfl⟩
              obtain ⟨xb, hxb⟩ : ∃ xb, tgetE fs sp = xb := ⟨_, rfl⟩
              rw [hxa] at HQa HIn
              rw [hxb] at HQb HIn
              clear hxa hxb
              obtain ⟨xe, xp⟩ := xa
              obtain ⟨ye, yp⟩ := xb
              go_wp2_with fail
              refine (HQa.out _ HEr.out HE.out).mono ?_
              rintro e w21 ⟨rfl, hB⟩
              replace HB := hidR (B3' HB.out hB)
              replace HEr := hidR (HEr.out.below hB)
              replace HE := hidR (HE.out.below hB)
              replace HF := hidR (HF.out.below hB)
              replace HS := hidR (HS.out.below hB)
              clear d0
              clear hB
              have hB : Below w21.heap.size w21 (w21.alloc (.cells #[.string xe.p, .bool xe.d, .string xe.x] 31)) := (Below.refl _ _).alloc (Nat.le_refl _) _
              replace HB := hidR (B3' HB.out hB)
              replace HEr := hidR (HEr.out.below hB)
              replace HE := hidR (HE.out.below hB)
              replace HF := hidR (HF.out.below hB)
              replace HS := hidR (HS.out.below hB)
              clear hB
              have HX0 : Hid ((w21.alloc (.cells #[.string xe.p, .bool xe.d, .string xe.x] 31)).cell? ⟨w21.heap.size, 0, none⟩ = some (.string xe.p)) := by show _ = _; simp
              have HX1 : Hid ((w21.alloc (.cells #[.string xe.p, .bool xe.d, .string xe.x] 31)).cell? ⟨w21.heap.size, 1, none⟩ = some (.bool xe.d)) := by show _ = _; simp
              have HX2 : Hid ((w21.alloc (.cells #[.string xe.p, .bool xe.d, .string xe.x] 31)).cell? ⟨w21.heap.size, 2, none⟩ = some (.string xe.x)) := by show _ = _; simp
              go_wp2_with fail
              refine (HQb.out _ HEr.out HF.out).mono ?_
              rintro e w22 ⟨rfl, hB⟩
              replace HB := hidR (B3' HB.out hB)
              replace HEr := hidR (HEr.out.below hB)
              replace HE := hidR (HE.out.below hB)
              replace HF := hidR (HF.out.below hB)
              replace HS := hidR (HS.out.below hB)
              have HXn0 := hidR (below_cell hB HX0.out)
              clear HX0
              have HX0 := HXn0
              clear HXn0
              have HXn1 := hidR (below_cell hB HX1.out)
              clear HX1
              have HX1 := HXn1
              clear HXn1
              have HXn2 := hidR (below_cell hB HX2.out)
              clear HX2
              have HX2 := HXn2
              clear HXn2
              clear hB
              have hB : Below w22.heap.size w22 (w22.alloc (.cells #[.string ye.p, .bool ye.d, .string ye.x] 31)) := (Below.refl _ _).alloc (Nat.le_refl _) _
              have HXn0 := hidR (below_cell hB HX0.out)
              clear HX0
              have HX0 := HXn0
              clear HXn0
              have HXn1 := hidR (below_cell hB HX1.out)
              clear HX1
              have HX1 := HXn1
              clear HXn1
              have HXn2 := hidR (below_cell hB HX2.out)
              clear HX2
              have HX2 := HXn2
              clear HXn2
              clear hB
              have hB : Below w22.heap.size w22 (w22.alloc (.cells #[.string ye.p, .bool ye.d, .string ye.x] 31)) := (Below.refl _ _).alloc (Nat.le_refl _) _
              replace HB := hidR (B3' HB.out hB)
              replace HEr := hidR (HEr.out.below hB)
              replace HE := hidR (HE.out.below hB)
              replace HF := hidR (HF.out.below hB)
              replace HS := hidR (HS.out.below hB)
              clear hB
              have HYY0 : Hid ((w22.alloc (.cells #[.string ye.p, .bool ye.d, .string ye.x] 31)).cell? ⟨w22.heap.size, 0, none⟩ = some (.string ye.p)) := by show _ = _; simp
              have HYY1 : Hid ((w22.alloc (.cells #[.string ye.p, .bool ye.d, .string ye.x] 31)).cell? ⟨w22.heap.size, 1, none⟩ = some (.bool ye.d)) := by show _ = _; simp
              have HYY2 : Hid ((w22.alloc (.cells #[.string ye.p, .bool ye.d, .string ye.x] 31)).cell? ⟨w22.heap.size, 2, none⟩ = some (.string ye.x)) := by show _ = _; simp
              go_wp2_with fail
              obtain ⟨W9, hW9⟩ : ∃ W9, (w22.alloc (.cells #[.string ye.p, .bool ye.d, .string ye.x] 31)) = W9 := ⟨_, rfl⟩
              rw [hW9] at HB HEr HE HF HS HX0 HX1 HX2 HYY0 HYY1 HYY2 ⊢
              clear hW9
              go_loopw [13, 14] (fun hv jv wl => ∃ j : Nat, j ≤ ls.length ∧ jv = .int .i64 j ∧ hv = .bool ((ls.take j).any (fun y => y.toList == sp.toList)) ∧ Hid (Below W9.heap.size W9 wl)) (fun _ jv _ => ls.length - (RowKit.intOf jv).toNat)
              case atStart => exact ⟨0, Nat.zero_le _, rfl, rfl, Below.refl _ _⟩
              case round =>
                obtain ⟨j, hj, rfl, rfl, HW⟩ := hrel
                by_cases hjl : j < ls.length
                · obtain rfl := HAL.out (by omega)
                  have s0 := (HS.out.below HW.out) j hjl
                  have HSc := hidR (any_succ ls sp j hjl)
                  obtain ⟨u, hu⟩ : ∃ u, ls[j] = u := ⟨_, rfl⟩
                  rw [hu] at s0 HSc
                  clear hu
                  obtain ⟨hb, hhb⟩ : ∃ hb, (ls.take j).any (fun y => y.toList == sp.toList) = hb := ⟨_, rfl⟩
                  rw [hhb] at HSc ⊢
                  clear hhb
                  cases hb with
                  | true =>
                    go_wp2
                    refine ⟨⟨j + 1, by omega, by go_num, by rw [HSc.out]; rfl, HW⟩, ?_⟩
                    simp [RowKit.intOf]
                    omega
                  | false =>
                    obtain ⟨ub, hub⟩ : ∃ ub, (u.toList == sp.toList) = ub := ⟨_, rfl⟩
                    rw [hub] at HSc
                    go_wp2
                    refine ⟨⟨j + 1, by omega, by go_num, by rw [HSc.out]; rfl, HW⟩, ?_⟩
                    simp [RowKit.intOf]
                    omega
                · have hje : j = ls.length := by omega
                  subst hje
                  rw [List.take_length]
                  have hin := HIn.out
                  obtain ⟨hb, hhb⟩ : ∃ hb, (ls.any (fun y => y.toList == sp.toList)) = hb := ⟨_, rfl⟩
                  rw [hhb] at hin ⊢
                  clear hhb HIn
                  have HB' := hidR (B3' HB.out HW.out)
                  have HEr' := hidR (HEr.out.below HW.out)
                  have HE' := hidR (HE.out.below HW.out)
                  have HF' := hidR (HF.out.below HW.out)
                  have HS' := hidR (HS.out.below HW.out)
                  have x0 := below_cell HW.out HX0.out
                  have x1 := below_cell HW.out HX1.out
                  have x2 := below_cell HW.out HX2.out
                  have y0 := below_cell HW.out HYY0.out
                  have y1 := below_cell HW.out HYY1.out
                  have y2 := below_cell HW.out HYY2.out
                  clear HB HEr HE HF HS HX0 HX1 HX2 HYY0 HYY1 HYY2
                  have hcs : (xp = true ∧ yp = false ∧ hb = true) ∨ (xp = false ∧ yp = true ∧ hb = true) ∨ (xp = yp ∧ xe = ye ∧ hb = false) ∨ (xp = yp ∧ sameT1 xe ye = false ∧ hb = true) := by
                    cases xp <;> cases yp
                    · cases hsm : sameT1 xe ye with
                      | true => exact .inr (.inr (.inl ⟨rfl, (sameT1_iff _ _).1 hsm, by rw [hin, hsm]; rfl⟩))
                      | false => exact .inr (.inr (.inr ⟨rfl, rfl, by rw [hin, hsm]; rfl⟩))
                    · exact .inr (.inl ⟨rfl, rfl, by rw [hin]; rfl⟩)
                    · exact .inl ⟨rfl, rfl, by rw [hin]; rfl⟩
                    · cases hsm : sameT1 xe ye with
                      | true => exact .inr (.inr (.inl ⟨rfl, (sameT1_iff _ _).1 hsm, by rw [hin, hsm]; rfl⟩))
                      | false => exact .inr (.inr (.inr ⟨rfl, rfl, by rw [hin, hsm]; rfl⟩))
                  clear hin
                  rcases hcs with ⟨rfl, rfl, rfl⟩ | ⟨rfl, rfl, rfl⟩ | ⟨rfl, rfl, rfl⟩ | ⟨rfl, hsm, rfl⟩
                  · go_wp2
                    all_goals
                      refine ⟨⟨n + 1, by omega, by go_num, by go_num, HB', HEr', HE', HF', HS'⟩, ?_⟩
                      simp [RowKit.intOf]
                      omega
                  · go_wp2
                    all_goals
                      refine ⟨⟨n + 1, by omega, by go_num, by go_num, HB', HEr', HE', HF', HS'⟩, ?_⟩
                      simp [RowKit.intOf]
                      omega
                  · have q0 : (xp != xp) = false := by simp
                    have q1 : (xe.p.toList == xe.p.toList) = true := by simp
                    have q2 : (xe.d == xe.d) = true := by simp
                    have q3 : (xe.x.toList == xe.x.toList) = true := by simp
                    go_wp2
                    all_goals
                      refine ⟨⟨n + 1, by omega, by go_num, by go_num, HB', HEr', HE', HF', HS'⟩, ?_⟩
                      simp [RowKit.intOf]
                      omega
                  · have q0 : (xp != xp) = false := by simp
                    unfold sameT1 at hsm
                    have hc3 : (xe.p.toList == ye.p.toList) = false ∨ ((xe.p.toList == ye.p.toList) = true ∧ (xe.d == ye.d) = false) ∨ ((xe.p.toList == ye.p.toList) = true ∧ (xe.d == ye.d) = true ∧ (xe.x.toList == ye.x.toList) = false) := by
                      revert hsm
                      cases (xe.p.toList == ye.p.toList) <;> cases (xe.d == ye.d) <;> cases (xe.x.toList == ye.x.toList) <;> simp
                    clear hsm
                    rcases hc3 with e1 | ⟨e1, e2⟩ | ⟨e1, e2, e3⟩
                    · go_wp2
                      all_goals
                        refine ⟨⟨n + 1, by omega, by go_num, by go_num, HB', HEr', HE', HF', HS'⟩, ?_⟩
                        simp [RowKit.intOf]
                        omega
                    · go_wp2
                      all_goals
                        refine ⟨⟨n + 1, by omega, by go_num, by go_num, HB', HEr', HE', HF', HS'⟩, ?_⟩
                        simp [RowKit.intOf]
                        omega
                    · go_wp2
                      all_goals
                        refine ⟨⟨n + 1, by omega, by go_num, by go_num, HB', HEr', HE', HF', HS'⟩, ?_⟩
                        simp [RowKit.intOf]
                        omega
            · have hn1' : ¬ (n : Int) < (es.length : Int) := by omega
              obtain rfl := HA2.out (by omega)
              obtain ⟨d0, -, -⟩ := HF.out (n - es.length) hn2
              have hpp : pathB fs[n - es.length].p = true := (treeE_tr htb).1.path _ (List.getElem_mem _)
              obtain ⟨sp, hsp⟩ : ∃ sp, fs[n - es.length].p = sp := ⟨_, rfl⟩
              rw [hsp] at d0 hpp
              clear hsp
              obtain ⟨n2, hn2e⟩ : ∃ n2, n = es.length + n2 := ⟨n - es.length, by omega⟩
              have hn3 : n - es.length = n2 := by omega
              have hn4 : (n : Int) - (es.length : Int) = (n2 : Int) := by omega
              rw [hn3] at d0
              have hsz : sp.size ≤ 16777216 := by have := path_sizeD hpp; omega
              have HQa := hidR (fun (W : World) (hEr : Errs2 W ae) (hW : Ents W g1 o1 es) => HGa.out W sp hsz hEr hW)
              have HQb := hidR (fun (W : World) (hEr : Errs2 W ae) (hW : Ents W g2 o2 fs) => HGb.out W sp hsz hEr hW)
              have HIn : Hid (((ls.any (fun y => y.toList == sp.toList)) = ((tgetE es sp).2 != (tgetE fs sp).2 || !(sameT1 (tgetE es sp).1 (tgetE fs sp).1)))) := any_differ hta htb hpp HMe.out
              obtain ⟨xa, hxa⟩ : ∃ xa, tgetE es sp = xa := ⟨_, rfl⟩
              obtain ⟨xb, hxb⟩ : ∃ xb, tgetE fs sp = xb := ⟨_, rfl⟩
              rw [hxa] at HQa HIn
              rw [hxb] at HQb HIn
              clear hxa hxb
              obtain ⟨xe, xp⟩ := xa
              obtain ⟨ye, yp⟩ := xb
              go_wp2_with fail
              refine (HQa.out _ HEr.out HE.out).mono ?_
              rintro e w21 ⟨rfl, hB⟩
              replace HB := hidR (B3' HB.out hB)
              replace HEr := hidR (HEr.out.below hB)
              replace HE := hidR (HE.out.below hB)
              replace HF := hidR (HF.out.below hB)
              replace HS := hidR (HS.out.below hB)
              clear d0
              clear hB
              have hB : Below w21.heap.size w21 (w21.alloc (.cells #[.string xe.p, .bool xe.d, .string xe.x] 31)) := (Below.refl _ _).alloc (Nat.le_refl _) _
              replace HB := hidR (B3' HB.out hB)
              replace HEr := hidR (HEr.out.below hB)
              replace HE := hidR (HE.out.below hB)
              replace HF := hidR (HF.out.below hB)
              replace HS := hidR (HS.out.below hB)
              clear hB
              have HX0 : Hid ((w21.alloc (.cells #[.string xe.p, .bool xe.d, .string xe.x] 31)).cell? ⟨w21.heap.size, 0, none⟩ = some (.string xe.p)) := by show _ = _; simp
              have HX1 : Hid ((w21.alloc (.cells #[.string xe.p, .bool xe.d, .string xe.x] 31)).cell? ⟨w21.heap.size, 1, none⟩ = some (.bool xe.d)) := by show _ = _; simp
              have HX2 : Hid ((w21.alloc (.cells #[.string xe.p, .bool xe.d, .string xe.x] 31)).cell? ⟨w21.heap.size, 2, none⟩ = some (.string xe.x)) := by show _ = _; simp
              go_wp2_with fail
              refine (HQb.out _ HEr.out HF.out).mono ?_
              rintro e w22 ⟨rfl, hB⟩
              replace HB := hidR (B3' HB.out hB)
              replace HEr := hidR (HEr.out.below hB)
              replace HE := hidR (HE.out.below hB)
              replace HF := hidR (HF.out.below hB)
              replace HS := hidR (HS.out.below hB)
              have HXn0 := hidR (below_cell hB HX0.out)
              clear HX0
              have HX0 := HXn0
              clear HXn0
              have HXn1 := hidR (below_cell hB HX1.out)
              clear HX1
              have HX1 := HXn1
              clear HXn1
              have HXn2 := hidR (below_cell hB HX2.out)
              clear HX2
              have HX2 := HXn2
              clear HXn2
              clear hB
              have hB : Below w22.heap.size w22 (w22.alloc (.cells #[.string ye.p, .bool ye.d, .string ye.x] 31)) := (Below.refl _ _).alloc (Nat.le_refl _) _
              have HXn0 := hidR (below_cell hB HX0.out)
              clear HX0
              have HX0 := HXn0
              clear HXn0
              have HXn1 := hidR (below_cell hB HX1.out)
              clear HX1
              have HX1 := HXn1
              clear HXn1
              have HXn2 := hidR (below_cell hB HX2.out)
              clear HX2
              have HX2 := HXn2
              clear HXn2
              clear hB
              have hB : Below w22.heap.size w22 (w22.alloc (.cells #[.string ye.p, .bool ye.d, .string ye.x] 31)) := (Below.refl _ _).alloc (Nat.le_refl _) _
              replace HB := hidR (B3' HB.out hB)
              replace HEr := hidR (HEr.out.below hB)
              replace HE := hidR (HE.out.below hB)
              replace HF := hidR (HF.out.below hB)
              replace HS := hidR (HS.out.below hB)
              clear hB
              have HYY0 : Hid ((w22.alloc (.cells #[.string ye.p, .bool ye.d, .string ye.x] 31)).cell? ⟨w22.heap.size, 0, none⟩ = some (.string ye.p)) := by show _ = _; simp
              have HYY1 : Hid ((w22.alloc (.cells #[.string ye.p, .bool ye.d, .string ye.x] 31)).cell? ⟨w22.heap.size, 1, none⟩ = some (.bool ye.d)) := by show _ = _; simp
              have HYY2 : Hid ((w22.alloc (.cells #[.string ye.p, .bool ye.d, .string ye.x] 31)).cell? ⟨w22.heap.size, 2, none⟩ = some (.string ye.x)) := by show _ = _; simp
              go_wp2_with fail
              obtain ⟨W9, hW9⟩ : ∃ W9, (w22.alloc (.cells #[.string ye.p, .bool ye.d, .string ye.x] 31)) = W9 := ⟨_, rfl⟩
              rw [hW9] at HB HEr HE HF HS HX0 HX1 HX2 HYY0 HYY1 HYY2 ⊢
              clear hW9
              go_loopw [13, 14] (fun hv jv wl => ∃ j : Nat, j ≤ ls.length ∧ jv = .int .i64 j ∧ hv = .bool ((ls.take j).any (fun y => y.toList == sp.toList)) ∧ Hid (Below W9.heap.size W9 wl)) (fun _ jv _ => ls.length - (RowKit.intOf jv).toNat)
              case atStart => exact ⟨0, Nat.zero_le _, rfl, rfl, Below.refl _ _⟩
              case round =>
                obtain ⟨j, hj, rfl, rfl, HW⟩ := hrel
                by_cases hjl : j < ls.length
                · obtain rfl := HAL.out (by omega)
                  have s0 := (HS.out.below HW.out) j hjl
                  have HSc := hidR (any_succ ls sp j hjl)
                  obtain ⟨u, hu⟩ : ∃ u, ls[j] = u := ⟨_, rfl⟩
                  rw [hu] at s0 HSc
                  clear hu
                  obtain ⟨hb, hhb⟩ : ∃ hb, (ls.take j).any (fun y => y.toList == sp.toList) = hb := ⟨_, rfl⟩
                  rw [hhb] at HSc ⊢
                  clear hhb
                  cases hb with
                  | true =>
                    go_wp2
                    refine ⟨⟨j + 1, by omega, by go_num, by rw [HSc.out]; rfl, HW⟩, ?_⟩
                    simp [RowKit.intOf]
                    omega
                  | false =>
                    obtain ⟨ub, hub⟩ : ∃ ub, (u.toList == sp.toList) = ub := ⟨_, rfl⟩
                    rw [hub] at HSc
                    go_wp2
                    refine ⟨⟨j + 1, by omega, by go_num, by rw [HSc.out]; rfl, HW⟩, ?_⟩
                    simp [RowKit.intOf]
                    omega
                · have hje : j = ls.length := by omega
                  subst hje
                  rw [List.take_length]
                  have hin := HIn.out
                  obtain ⟨hb, hhb⟩ : ∃ hb, (ls.any (fun y => y.toList == sp.toList)) = hb := ⟨_, rfl⟩
                  rw [hhb] at hin ⊢
                  clear hhb HIn
                  have HB' := hidR (B3' HB.out HW.out)
                  have HEr' := hidR (HEr.out.below HW.out)
                  have HE' := hidR (HE.out.below HW.out)
                  have HF' := hidR (HF.out.below HW.out)
                  have HS' := hidR (HS.out.below HW.out)
                  have x0 := below_cell HW.out HX0.out
                  have x1 := below_cell HW.out HX1.out
                  have x2 := below_cell HW.out HX2.out
                  have y0 := below_cell HW.out HYY0.out
                  have y1 := below_cell HW.out HYY1.out
                  have y2 := below_cell HW.out HYY2.out
                  clear HB HEr HE HF HS HX0 HX1 HX2 HYY0 HYY1 HYY2
                  have hcs : (xp = true ∧ yp = false ∧ hb = true) ∨ (xp = false ∧ yp = true ∧ hb = true) ∨ (xp = yp ∧ xe = ye ∧ hb = false) ∨ (xp = yp ∧ sameT1 xe ye = false ∧ hb = true) := by
                    cases xp <;> cases yp
                    · cases hsm : sameT1 xe ye with
                      | true => exact .inr (.inr (.inl ⟨rfl, (sameT1_iff _ _).1 hsm, by rw [hin, hsm]; rfl⟩))
                      | false => exact .inr (.inr (.inr ⟨rfl, rfl, by rw [hin, hsm]; rfl⟩))
                    · exact .inr (.inl ⟨rfl, rfl, by rw [hin]; rfl⟩)
                    · exact .inl ⟨rfl, rfl, by rw [hin]; rfl⟩
                    · cases hsm : sameT1 xe ye with
                      | true => exact .inr (.inr (.inl ⟨rfl, (sameT1_iff _ _).1 hsm, by rw [hin, hsm]; rfl⟩))
                      | false => exact .inr (.inr (.inr ⟨rfl, rfl, by rw [hin, hsm]; rfl⟩))
                  clear hin
                  rcases hcs with ⟨rfl, rfl, rfl⟩ | ⟨rfl, rfl, rfl⟩ | ⟨rfl, rfl, rfl⟩ | ⟨rfl, hsm, rfl⟩
                  · go_wp2
                    all_goals
                      refine ⟨⟨n + 1, by omega, by go_num, by go_num, HB', HEr', HE', HF', HS'⟩, ?_⟩
                      simp [RowKit.intOf]
                      omega
                  · go_wp2
                    all_goals
                      refine ⟨⟨n + 1, by omega, by go_num, by go_num, HB', HEr', HE', HF', HS'⟩, ?_⟩
                      simp [RowKit.intOf]
                      omega
                  · have q0 : (xp != xp) = false := by simp
                    have q1 : (xe.p.toList == xe.p.toList) = true := by simp
                    have q2 : (xe.d == xe.d) = true := by simp
                    have q3 : (xe.x.toList == xe.x.toList) = true := by simp
                    go_wp2
                    all_goals
                      refine ⟨⟨n + 1, by omega, by go_num, by go_num, HB', HEr', HE', HF', HS'⟩, ?_⟩
                      simp [RowKit.intOf]
                      omega
                  · have q0 : (xp != xp) = false := by simp
                    unfold sameT1 at hsm
                    have hc3 : (xe.p.toList == ye.p.toList) = false ∨ ((xe.p.toList == ye.p.toList) = true ∧ (xe.d == ye.d) = false) ∨ ((xe.p.toList == ye.p.toList) = true ∧ (xe.d == ye.d) = true ∧ (xe.x.toList == ye.x.toList) = false) := by
                      revert hsm
                      cases (xe.p.toList == ye.p.toList) <;> cases (xe.d == ye.d) <;> cases (xe.x.toList == ye.x.toList) <;> simp
                    clear hsm
                    rcases hc3 with e1 | ⟨e1, e2⟩ | ⟨e1, e2, e3⟩
                    · go_wp2
                      all_goals
                        refine ⟨⟨n + 1, by omega, by go_num, by go_num, HB', HEr', HE', HF', HS'⟩, ?_⟩
                        simp [RowKit.intOf]
                        omega
                    · go_wp2
                      all_goals
                        refine ⟨⟨n + 1, by omega, by go_num, by go_num, HB', HEr', HE', HF', HS'⟩, ?_⟩
                        simp [RowKit.intOf]
                        omega
                    · go_wp2
                      all_goals
                        refine ⟨⟨n + 1, by omega, by go_num, by go_num, HB', HEr', HE', HF', HS'⟩, ?_⟩
                        simp [RowKit.intOf]
                        omega
          · have hne : n = es.length + fs.length := by omega
            subst hne
            have hcs : (sameT es fs = true ∧ ls = []) ∨ (sameT es fs = false ∧ ((ls.length : Int) == 0) = false) := by
              cases hsm : sameT es fs with
              | true => exact .inl ⟨rfl, HNi.out.2 (sameT_eq hsm)⟩
              | false =>
                refine .inr ⟨rfl, ?_⟩
                rw [beq_eq_false_iff_ne]
                intro q
                have : ls = [] := List.length_eq_zero_iff.1 (by omega)
                rw [HNi.out.1 this, sameT_refl] at hsm
                cases hsm
            rcases hcs with ⟨hsm, rfl⟩ | ⟨hsm, hl0⟩
            · rw [hsm] at HSm
              go_wp2_with fail
              refine (HSm.out _ HE.out HF.out).mono ?_
              rintro e w41 ⟨rfl, hB⟩
              replace HB := hidR (B3' HB.out hB)
              clear hB
              go_wp2
              go_ret
              exact ⟨rfl, HB.out⟩
            · rw [hsm] at HSm
              go_wp2_with fail
              refine (HSm.out _ HE.out HF.out).mono ?_
              rintro e w41 ⟨rfl, hB⟩
              replace HB := hidR (B3' HB.out hB)
              clear hB
              go_wp2
              go_ret
              exact ⟨rfl, HB.out⟩
  · go_enter Tryd.func3, Tryd.ntmps3
    go_wp2
    go_ret
    exact ⟨rfl, Below.refl _ _⟩
end Go.Proofs.YtbcogekeoklddaaDoor
