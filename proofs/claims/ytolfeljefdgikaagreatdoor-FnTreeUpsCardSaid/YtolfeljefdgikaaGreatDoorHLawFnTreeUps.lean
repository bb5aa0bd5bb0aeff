/-
  The walk of the law FnTreeUps, out of the contracts.
-/
import Derived.Lib.QuietBelow
import Derived.Test.YtolfeljefdgikaaGreatDoorHDrawGet
import Derived.Test.YtolfeljefdgikaaGreatDoorHWpIn
import Derived.Test.YtolfeljefdgikaaGreatDoorHImplGet
import Derived.Test.YtolfeljefdgikaaGreatDoorHListI
import Derived.Test.YtolfeljefdgikaaGreatDoorHTreeGet
import Derived.Test.YtolfeljefdgikaaGreatDoorHImpl2
import Derived.Test.YtolfeljefdgikaaGreatDoorHDoSz
namespace Go.Proofs.YtolfeljefdgikaaGreatDoor
open Go.RowKit Go.Lib Go.Sort

def stemN (v : Value) : Nat := match v with
  | .string u => (stemS u).size
  | _ => 0
theorem stemN_up {u : ByteArray} (h : pathB u = true) : stemN (.string (upS u)) < stemN (.string u) := by
  show (stemS (upS u)).size < (stemS u).size
  have h2 : stemS u = u := stem_path h
  rw [h2]
  exact up_size h
theorem up_size' {u : ByteArray} (h : pathB u = true) : (upS u).size ≤ u.size := by
  rcases stemOk_is (up_facts h).1 with k | k
  · rw [k]; have := (pathB_head u h).1; show 1 ≤ _; omega
  · have := up_size h
    rw [stem_path k] at this; omega
set_option maxHeartbeats 2000000 in
set_option maxRecDepth 100000 in
theorem walk_fnTreeUps (ae : Int → Addr) (a : Option Addr) (len cap : Nat) (zs : List Int) (w : World) (hErr : Errs2R w ae) (hw : IsRow .u8 w a len cap zs) :
    Calls Tryz.prog 6 #[.slice a len cap] w fun e w' => e = .returned (.bool true) ∧ Below w.heap.size w w' := by
  have hC := hidR hw.cod
  have HEr := hidR hErr
  clear hw hErr
  by_cases hl : len ≤ 1048576
  · go_enter Tryz.func6, Tryz.ntmps6
    go_wp2_with fail
    refine (DrawTreeGet_any _ a len cap hl hC.out).mono ?_
    rintro e w1 ⟨v, es, s, rfl, hL, hS, hs, hB⟩
    obtain ⟨a1, g1, o1, c1, rfl, ha1, hE, hc1, -⟩ := hL
    have HB := hidR hB
    replace HEr := hidR (HEr.out.below hB)
    have HE := hidR hE
    have HA := hidR ha1
    have HZ : Hid (∀ e ∈ es, e.p.size ≤ 16777216 ∧ e.x.size ≤ 16777216) := fun e he => ⟨by have := (hS.2 e he).1; omega, by have := (hS.2 e he).2; omega⟩
    have hlen : es.length ≤ 17 := hS.1
    have hn1 : es.length ≤ 1048576 := by omega
    have hn2 : es.length ≤ 16777216 := by omega
    have hs2 : s.size ≤ 16777216 := by omega
    clear hB hC hE ha1 hS
    have HGi := hidR (fun (W : World) (u : ByteArray) (hu : u.size ≤ 16777216) (hEr : Errs2R W ae) (hW : Ents W g1 o1 es) => iTreeGet_any W a1 g1 o1 c1 es u ae hEr.errs hn2 hu HZ.out HA.out hW)
    have HGs := hidR (fun (W : World) (hW : Ents W g1 o1 es) => sTreeGet_any W a1 g1 o1 c1 es s hn2 hc1 HZ.out HA.out hW)
    have HL := hidR (fun (W : World) (u : ByteArray) (hu : u.size ≤ 16777216) (hEr : Errs2R W ae) (hW : Ents W g1 o1 es) => iTreeList_any W a1 g1 o1 c1 es u ae hEr hn2 hu HZ.out HA.out hW)
    have hcase : (tgetE es s).2 = false ∨ ((tgetE es s).2 = true ∧ isRoot s = true) ∨ ((tgetE es s).2 = true ∧ isRoot s = false ∧ treeE es = true ∧ ∃ e, lookE es s = some e) := by
      cases hg : (tgetE es s).2 with
      | false => exact .inl rfl
      | true =>
        right
        cases hr : isRoot s with
        | true => exact .inl ⟨rfl, rfl⟩
        | false =>
          right
          cases htr : treeE es with
          | false => rw [tget_bad htr] at hg; cases hg
          | true =>
            rw [tget_look htr hr] at hg
            refine ⟨rfl, rfl, rfl, ?_⟩
            cases hlk : lookE es s with
            | none => rw [hlk] at hg; cases hg
            | some e => exact ⟨e, rfl⟩
    have HG1 := hidR (fun (W : World) (hEr : Errs2R W ae) (hW : Ents W g1 o1 es) => HGi.out W s hs2 hEr hW)
    obtain ⟨te, hte⟩ : ∃ te, (tgetE es s).1 = te := ⟨_, rfl⟩
    obtain ⟨had, hhad⟩ : ∃ had, (tgetE es s).2 = had := ⟨_, rfl⟩
    rw [hte, hhad] at HG1 HGs
    rw [hhad] at hcase
    have hne : (had != had) = false := by simp
    have heq : (had == had) = true := by simp
    clear hte hhad
    go_wp2_with fail
    refine (HG1.out _ HEr.out HE.out).mono ?_
    rintro e w2 ⟨rfl, hB⟩
    replace HB := hidR (B3' HB.out hB)
    replace HEr := hidR (HEr.out.below hB)
    replace HE := hidR (HE.out.below hB)
    clear hB
    have hB : Below w2.heap.size w2 (w2.alloc (.cells #[.string te.p, .bool te.d, .string te.x] 35)) := (Below.refl _ _).alloc (Nat.le_refl _) _
    replace HB := hidR (B3' HB.out hB)
    replace HEr := hidR (HEr.out.below hB)
    replace HE := hidR (HE.out.below hB)
    clear hB
    go_wp2_with fail
    refine (HGs.out _ HE.out).mono ?_
    rintro e w3 ⟨rfl, hB⟩
    replace HB := hidR (B3' HB.out hB)
    replace HEr := hidR (HEr.out.below hB)
    replace HE := hidR (HE.out.below hB)
    clear hB
    have hB : Below w3.heap.size w3 (w3.alloc (.cells #[.string te.p, .bool te.d, .string te.x] 35)) := (Below.refl _ _).alloc (Nat.le_refl _) _
    replace HB := hidR (B3' HB.out hB)
    replace HEr := hidR (HEr.out.below hB)
    replace HE := hidR (HE.out.below hB)
    clear hB
    rcases hcase with rfl | ⟨rfl, hr⟩ | ⟨rfl, hr, htr, e0, he0⟩
    · go_wp2
      go_ret
      exact ⟨rfl, HB.out⟩
    · have hr' : (s.toList == [47]) = true := hr
      go_wp2
      go_ret
      exact ⟨rfl, HB.out⟩
    · have hr' : (s.toList == [47]) = false := hr
      obtain ⟨T, _⟩ := treeE_tr htr
      have hpath := look_path T he0
      have HUl := hidR (ups_list htr he0)
      have HUd : Hid (dirE es (upS s) = true) := by
        obtain ⟨h1, h2⟩ := look_mem he0
        have := T.up e0 h1
        rw [h2] at this
        exact this
      have hus : (upS s).size ≤ 17 := by have := upS_sizeD s; omega
      have hus2 : (upS s).size ≤ 16777216 := by omega
      have hln := list_lenD es (upS s)
      clear he0
      go_wp2_with fail
      refine (iPathUp_any s hs2 _).mono ?_
      rintro e w4 ⟨rfl, hB⟩
      replace HB := hidR (B3' HB.out hB)
      replace HEr := hidR (HEr.out.below hB)
      replace HE := hidR (HE.out.below hB)
      clear hB
      go_wp2_with fail
      go_loopw [9] (fun v wl => ∃ u : ByteArray, v = .string u ∧ u.size ≤ 17 ∧ Hid (dirE es u = true) ∧ Hid (Below w.heap.size w wl) ∧ Hid (Errs2R wl ae) ∧ Hid (Ents wl g1 o1 es)) (fun v _ => stemN v)
      case atStart => exact ⟨upS s, rfl, hus, HUd, HB, HEr, HE⟩
      case round =>
        clear HB HEr HE
        obtain ⟨u, rfl, hu, HD, HB, HEr, HE⟩ := hrel
        rcases up_dirs T HD.out with hur | ⟨hup, ⟨f, hf, hfd⟩, hdu⟩
        · have hur' : (u.toList == [47]) = true := (isRoot_iff u).2 hur
          have hur2 : u.toList = [47] := by simpa using hur'
          clear hur
          go_wp2_with fail
          refine (iPathUp_any s hs2 _).mono ?_
          rintro e w5 ⟨rfl, hB⟩
          replace HB := hidR (B3' HB.out hB)
          replace HEr := hidR (HEr.out.below hB)
          replace HE := hidR (HE.out.below hB)
          clear hB
          go_wp2_with fail
          refine (HL.out _ (upS s) hus2 HEr.out HE.out).mono ?_
          rintro e w6 ⟨vl, rfl, hol, hB⟩
          replace HB := hidR (B3' HB.out hB)
          replace HEr := hidR (HEr.out.below hB)
          replace HE := hidR (HE.out.below hB)
          obtain ⟨al, gl, cl, rfl, hal, hSl⟩ := StrB.of_row hol
          have HS := hidR hSl
          have HAL := hidR hal
          clear hol hSl hal
          clear hB
          have hany : (listE es (upS s)).any (fun y => y.toList == (nmS s).toList) = true := by
            rw [List.any_eq_true]
            exact ⟨nmS s, HUl.out.2, by simp⟩
          have HW := hidR (fun (W : World) (h : StrB W gl (listE es (upS s))) => wpIn_any W al gl cl (listE es (upS s)) (nmS s) (by omega) HAL.out h)
          rw [hany] at HW
          have hlc : listC es (upS s) = 0 := HUl.out.1
          rw [hlc]
          go_wp2_with fail
          refine (iPathName_any s hs2 _).mono ?_
          rintro e w7 ⟨rfl, hB⟩
          replace HB := hidR (B3' HB.out hB)
          replace HS := hidR (HS.out.below hB)
          clear hB
          go_wp2_with fail
          refine (HW.out _ HS.out).mono ?_
          rintro e w8 ⟨rfl, hB⟩
          replace HB := hidR (B3' HB.out hB)
          clear hB
          go_wp2
          go_ret
          exact ⟨rfl, HB.out⟩
        · have hur' : (u.toList == [47]) = false := root_not_path hup
          have hur2 : ¬ u.toList = [47] := by simpa using hur'
          have hu2 : u.size ≤ 16777216 := by omega
          have HGu := hidR (fun (W : World) (hEr : Errs2R W ae) (hW : Ents W g1 o1 es) => HGi.out W u hu2 hEr hW)
          rw [tget_some htr hup hf] at HGu
          go_wp2_with fail
          refine (HGu.out _ HEr.out HE.out).mono ?_
          rintro e w5 ⟨rfl, hB⟩
          replace HB := hidR (B3' HB.out hB)
          replace HEr := hidR (HEr.out.below hB)
          replace HE := hidR (HE.out.below hB)
          clear hB
          skip
          have hB : Below w5.heap.size w5 (w5.alloc (.cells #[.string f.p, .bool true, .string f.x] 35)) := (Below.refl _ _).alloc (Nat.le_refl _) _
          replace HB := hidR (B3' HB.out hB)
          replace HEr := hidR (HEr.out.below hB)
          replace HE := hidR (HE.out.below hB)
          clear hB
          have hfd' := hfd
          go_wp2_with fail
          refine (iPathUp_any u hu2 _).mono ?_
          rintro e w6 ⟨rfl, hB⟩
          replace HB := hidR (B3' HB.out hB)
          replace HEr := hidR (HEr.out.below hB)
          replace HE := hidR (HE.out.below hB)
          clear hB
          go_wp2
          go_roundw
          case rel => exact ⟨upS u, rfl, by have := up_size' hup; omega, hdu, HB, HEr, HE⟩
          case measure => exact stemN_up hup
  · go_enter Tryz.func6, Tryz.ntmps6
    go_wp2
    go_ret
    exact ⟨rfl, Below.refl _ _⟩
end Go.Proofs.YtolfeljefdgikaaGreatDoor
