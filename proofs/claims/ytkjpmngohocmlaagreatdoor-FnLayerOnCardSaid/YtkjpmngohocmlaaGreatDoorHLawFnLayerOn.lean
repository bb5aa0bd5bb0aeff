/-
  The walk of the law FnLayerOn, out of the contracts.
-/
import Derived.Lib.QuietBelow
import Derived.Test.YtkjpmngohocmlaaGreatDoorHLyOnL
import Derived.Test.YtkjpmngohocmlaaGreatDoorHImplGet
import Derived.Test.YtkjpmngohocmlaaGreatDoorHImplOk
import Derived.Test.YtkjpmngohocmlaaGreatDoorHSameI
import Derived.Test.YtkjpmngohocmlaaGreatDoorHMkLayI
import Derived.Test.YtkjpmngohocmlaaGreatDoorHPk05
import Derived.Test.YtkjpmngohocmlaaGreatDoorHLyOn
import Derived.Test.YtkjpmngohocmlaaGreatDoorHDrawOn
import Derived.Test.YtkjpmngohocmlaaGreatDoorHUnderI
import Derived.Test.YtkjpmngohocmlaaGreatDoorHLawTop
import Derived.Test.YtkjpmngohocmlaaGreatDoorHLySz
namespace Go.Proofs.YtkjpmngohocmlaaGreatDoor.Ly
open Go.RowKit Go.Lib Go.Sort

set_option maxHeartbeats 4000000 in
set_option maxRecDepth 100000 in
theorem walk_fnLayerOn (ae : Int → Addr) (a : Option Addr) (len cap : Nat) (zs : List Int) (w : World) (hErr : Errs2 w ae) (hw : IsRow .u8 w a len cap zs) :
    Calls Tryz.prog 3 #[.slice a len cap] w fun e w' => e = .returned (.bool true) ∧ Below w.heap.size w w' := by
  have hC := hidR hw.cod
  have HEr := hidE (fun (W : World) (h : Below w.heap.size w W) => hErr.below h)
  clear hw hErr
  by_cases hl : len ≤ 1048576
  · go_enter Tryz.func3, Tryz.ntmps3
    go_wp2_with fail
    refine (DrawLayerOn_any _ a len cap hl hC.out).mono ?_
    rintro e w1 ⟨v, v', l, t, rfl, hL, hD, hM, hS, hB⟩
    obtain ⟨a1, g1, o1, c1, rfl, ha1, hE, hc1, -⟩ := hL
    obtain ⟨a2, g2, o2, c2, rfl, ha2, hF, hc2, -⟩ := hM
    have HB1 := hidE hB
    have HE1 := hidE hE
    have HF1 := hidE hF
    have HA1 := hidE ha1
    have HA2 := hidE ha2
    have HZ : Hid (∀ e ∈ l, e.p.size ≤ 16777216 ∧ e.x.size ≤ 16777216) := fun e he => ⟨by have := Mk.okP_size (hD.2 e he).1; omega, by have := (hD.2 e he).2; omega⟩
    have HZ' : Hid (∀ e ∈ t, e.p.size ≤ 16777216 ∧ e.x.size ≤ 16777216) := fun e he => ⟨by have := (hS.2 e he).1; omega, by have := (hS.2 e he).2; omega⟩
    have hlen : l.length ≤ 33 := hD.1
    have hlen' : t.length ≤ 17 := hS.1
    have HIm := hidE (fun (W : World) (h0 : Errs2 W ae) (h1 : Mk.Ents W g1 o1 l) (h2 : Ents W g2 o2 t) => iLayerOn_any W a1 g1 o1 c1 l a2 g2 o2 c2 t ae h0 (by omega) (by omega) HZ.out HZ'.out HA1.out HA2.out h1 h2)
    have HSp := hidE (fun (W : World) (h1 : Mk.Ents W g1 o1 l) (h2 : Ents W g2 o2 t) => sLayerOn_any W a1 g1 o1 c1 l a2 g2 o2 c2 t (by omega) (by omega) hc1 hc2 HZ.out HZ'.out HA1.out HA2.out h1 h2)
    have HLi := hidE (fun (W : World) (h1 : Mk.Ents W g1 o1 l) => Mk.iLayerOk_any W a1 g1 o1 c1 l (by omega) HZ.out HA1.out h1)
    have HLs := hidE (fun (W : World) (h1 : Mk.Ents W g1 o1 l) => Mk.sLayerOk_any W a1 g1 o1 c1 l (by omega) hc1 HZ.out HA1.out h1)
    have HLh := hidE (fun (W : World) (u : ByteArray) (hu : u.size ≤ 16777216) (h1 : Mk.Ents W g1 o1 l) => Mk.iLayerHides_any W a1 g1 o1 c1 l u (by omega) hu HZ.out HA1.out h1)
    clear hB hE hF ha1 ha2 hD hS hC
    have hdl : (onE l t).length ≤ 16 := by
      cases hon : onB l t with
      | false => unfold onE; rw [hon]; exact Nat.zero_le _
      | true =>
        obtain ⟨p1, p2, p3, p4⟩ := on_is hon
        rw [p4]; exact p3
    have HZd : Hid (∀ e ∈ onE l t, e.p.size ≤ 16777216 ∧ e.x.size ≤ 16777216) := by
      intro e he
      cases hon : onB l t with
      | false => unfold onE at he; rw [hon] at he; cases he
      | true =>
        obtain ⟨p1, p2, p3, p4⟩ := on_is hon
        rw [p4] at he
        exact on_sz (lay_tr' p1) (treeE_tr p2).1 HZ.out HZ'.out e he
    have HNo : Hid (onB l t = false → onE l t = []) := fun h => by unfold onE; rw [h]; rfl
    have HMa : Hid (onB l t = true → ∀ m ∈ l, (m.d = 3 ∧ (tgetE (onE l t) m.p).2 = false) ∨ ((m.d = 1 ∨ m.d = 2 ∨ m.d = 4) ∧ (tgetE (onE l t) m.p).2 = true ∧ (tgetE (onE l t) m.p).1.d = (m.d != 1) ∧ (tgetE (onE l t) m.p).1.x = m.x)) := fun h m hm => at_mark h hm
    have HOt : Hid (onB l t = true → ∀ e ∈ t, hasO l e.p = false → ((tgetE (onE l t) e.p).2 = true ∧ (tgetE (onE l t) e.p).1 = e ∧ Mk.layHides l e.p = false ∧ covM l e.p = false) ∨ ((tgetE (onE l t) e.p).2 = false ∧ Mk.layHides l e.p = true ∧ covM l e.p = true)) := fun h e he hn => at_other h he hn
    have HTr : Hid (onB l t = true → treeE (onE l t) = true) := fun h => by rw [(on_is h).2.2.2]; exact on_treeO h
    have HCn : Hid (onB l t = true → (t.filter (fun e => !covM l e.p)).length + (l.filter (fun m => m.d != 3)).length = (onE l t).length) := fun h => on_cnt h
    have HPl : Hid (onB l t = true → (∀ m ∈ l, m.p.size ≤ 16777216) ∧ (∀ m ∈ t, m.p.size ≤ 16777216)) := fun _ => ⟨fun m hm => (HZ.out m hm).1, fun m hm => (HZ'.out m hm).1⟩
    obtain ⟨ds, hds⟩ : ∃ ds, onE l t = ds := ⟨_, rfl⟩
    rw [hds] at HIm HSp HNo HMa HOt HTr HCn HZd hdl
    clear hds
    obtain ⟨ob, hob⟩ : ∃ ob, onB l t = ob := ⟨_, rfl⟩
    rw [hob] at HIm HSp HNo HMa HOt HTr HCn HPl
    clear hob
    obtain ⟨lb, hlb⟩ : ∃ lb, Mk.layB l = lb := ⟨_, rfl⟩
    rw [hlb] at HLi HLs
    clear hlb
    have q0 : (ob != ob) = false := by simp
    have q1 : (lb != lb) = false := by simp
    go_wp2_with fail
    refine (HIm.out _ (HEr.out _ HB1.out) HE1.out HF1.out).mono ?_
    rintro e w2 ⟨vg, rfl, hrow, hB⟩
    obtain ⟨ag, gg, capg, rfl, hag, hG, -, -⟩ := hrow
    have HB := hidE (B3E HB1.out hB)
    have HE := hidE (HE1.out.below hB)
    have HF := hidE (HF1.out.below hB)
    have HG := hidE hG
    have HAg := hidE hag
    clear hB hG hag HIm HB1 HE1 HF1
    go_wp2_with fail
    refine (HSp.out _ HE.out HF.out).mono ?_
    rintro e w3 ⟨vw, rfl, hrow, hB⟩
    obtain ⟨ak, gk, capk, rfl, hak, hK, -⟩ := OwnE.ents hrow
    replace HB := hidE (B3E HB.out hB)
    replace HE := hidE (HE.out.below hB)
    replace HF := hidE (HF.out.below hB)
    replace HG := hidE (HG.out.below hB)
    clear hB
    have HK := hidE hK
    have HAk := hidE hak
    clear hK hak HSp
    have HSm := hidE (fun (W : World) (h1 : Ents W gg 0 ds) (h2 : Ents W gk 0 ds) => iTreeSame_any W ag gg 0 capg ds ak gk 0 capk ds (by omega) (by omega) HAg.out HAk.out h1 h2)
    rw [sameT_reO] at HSm
    go_wp2_with fail
    refine (HSm.out _ HG.out HK.out).mono ?_
    rintro e w4 ⟨rfl, hB⟩
    replace HB := hidE (B3E HB.out hB)
    replace HE := hidE (HE.out.below hB)
    replace HF := hidE (HF.out.below hB)
    replace HG := hidE (HG.out.below hB)
    clear hB
    clear HSm HK HAk
    go_wp2_with fail
    refine (HLi.out _ HE.out).mono ?_
    rintro e w5 ⟨rfl, hB⟩
    replace HB := hidE (B3E HB.out hB)
    replace HE := hidE (HE.out.below hB)
    replace HF := hidE (HF.out.below hB)
    replace HG := hidE (HG.out.below hB)
    clear hB
    go_wp2_with fail
    refine (HLs.out _ HE.out).mono ?_
    rintro e w6 ⟨rfl, hB⟩
    replace HB := hidE (B3E HB.out hB)
    replace HE := hidE (HE.out.below hB)
    replace HF := hidE (HF.out.below hB)
    replace HG := hidE (HG.out.below hB)
    clear hB
    clear HLi HLs
    cases ob with
    | false =>
      obtain rfl := HNo.out rfl
      go_wp2
      go_ret
      exact ⟨rfl, HB.out⟩
    | true =>
      replace HMa := hidE (HMa.out rfl)
      replace HOt := hidE (HOt.out rfl)
      replace HTr := hidE (HTr.out rfl)
      replace HCn := hidE (HCn.out rfl)
      have HTg := hidE (fun (W : World) (u : ByteArray) (hu : u.size ≤ 16777216) (hb : Below w.heap.size w W) (h1 : Ents W gg 0 ds) => iTreeGet_any W ag gg 0 capg ds u ae (HEr.out _ hb) (by omega) hu HZd.out HAg.out h1)
      have HTo := hidE (fun (W : World) (hb : Below w.heap.size w W) (h1 : Ents W gg 0 ds) => iTreeOk_any W ag gg 0 capg ds ae (HEr.out _ hb) (by omega) HZd.out HAg.out h1)
      rw [HTr.out] at HTo
      clear HNo HPl HTr q0 q1
      go_wp2_with fail
      go_loopw [9] (fun iv wl => ∃ i : Nat, i ≤ l.length ∧ iv = .int .i64 i ∧ Hid (Below w.heap.size w wl) ∧ Hid (Mk.Ents wl g1 o1 l) ∧ Hid (Ents wl g2 o2 t) ∧ Hid (Ents wl gg 0 ds)) (fun iv _ => l.length - (RowKit.intOf iv).toNat)
      case atStart => exact ⟨0, Nat.zero_le _, rfl, HB, HE, HF, HG⟩
      case round =>
        clear HB HE HF HG
        obtain ⟨i, hi, rfl, HB, HE, HF, HG⟩ := hrel
        by_cases hil : i < l.length
        · obtain rfl := HA1.out (by omega)
          obtain ⟨m0, -, -⟩ := HE.out i hil
          have hAt := HMa.out l[i] (List.getElem_mem _)
          have hsz := (HZ.out l[i] (List.getElem_mem _)).1
          obtain ⟨sp, hsp⟩ : ∃ sp, l[i].p = sp := ⟨_, rfl⟩
          obtain ⟨md, hmd⟩ : ∃ md, l[i].d = md := ⟨_, rfl⟩
          obtain ⟨mx, hmx⟩ : ∃ mx, l[i].x = mx := ⟨_, rfl⟩
          rw [hsp] at m0 hAt hsz
          rw [hmd, hmx] at hAt
          have HMd := hidE hmd
          have HMx := hidE hmx
          clear hsp hmd hmx
          have HQ := hidE (fun (W : World) (hb : Below w.heap.size w W) (h1 : Ents W gg 0 ds) => HTg.out W sp hsz hb h1)
          obtain ⟨xa, hxa⟩ : ∃ xa, tgetE ds sp = xa := ⟨_, rfl⟩
          rw [hxa] at HQ hAt
          clear hxa
          obtain ⟨⟨ep, ed, ex⟩, xp⟩ := xa
          have HAt := hidE hAt
          clear hAt
          go_wp2_with fail
          refine (HQ.out _ HB.out HG.out).mono ?_
          rintro e w21 ⟨rfl, hB⟩
          clear m0
          replace HB := hidE (B3E HB.out hB)
          replace HE := hidE (HE.out.below hB)
          replace HF := hidE (HF.out.below hB)
          replace HG := hidE (HG.out.below hB)
          clear hB
          have hB : Below w21.heap.size w21 (w21.alloc (.cells #[.string ep, .bool ed, .string ex] 32)) := (Below.refl _ _).alloc (Nat.le_refl _) _
          replace HB := hidE (B3E HB.out hB)
          replace HE := hidE (HE.out.below hB)
          replace HF := hidE (HF.out.below hB)
          replace HG := hidE (HG.out.below hB)
          clear hB
          have x0 : (w21.alloc (.cells #[.string ep, .bool ed, .string ex] 32)).cell? ⟨w21.heap.size, 0, none⟩ = some (.string ep) := by simp
          have x1 : (w21.alloc (.cells #[.string ep, .bool ed, .string ex] 32)).cell? ⟨w21.heap.size, 1, none⟩ = some (.bool ed) := by simp
          have x2 : (w21.alloc (.cells #[.string ep, .bool ed, .string ex] 32)).cell? ⟨w21.heap.size, 2, none⟩ = some (.string ex) := by simp
          have HX0 := hidE x0
          have HX1 := hidE x1
          have HX2 := hidE x2
          clear x0 x1 x2
          go_wp2_with fail
          obtain ⟨W9, hW9⟩ : ∃ W9, (w21.alloc (.cells #[.string ep, .bool ed, .string ex] 32)) = W9 := ⟨_, rfl⟩
          rw [hW9] at HB HE HF HG HX0 HX1 HX2 ⊢
          clear hW9
          have x1 := HX1.out
          have x2 := HX2.out
          obtain ⟨m0, m1, m2⟩ := HE.out i hil
          rw [HMd.out] at m1
          rw [HMx.out] at m2
          rcases HAt.out with ⟨h3, h4⟩ | ⟨h3, h4, h5, h6⟩
          · replace h4 : xp = false := h4
            subst h3 h4
            go_quiet (fail)
            replace HB := hidE (Mk.below_draws2 HB.out nq)
            replace HE := hidE (HE.out.below (Mk.below_draws2 (Below.refl _ _) nq))
            replace HF := hidE (HF.out.below (Mk.below_draws2 (Below.refl _ _) nq))
            replace HG := hidE (HG.out.below (Mk.below_draws2 (Below.refl _ _) nq))
            clear x1 x2 m0 m1 m2
            go_wp2
            go_roundw
            case rel => exact ⟨i + 1, by omega, by go_num, HB, HE, HF, HG⟩
            case measure => simp [RowKit.intOf]; omega
          · replace h4 : xp = true := h4
            replace h5 : ed = (md != 1) := h5
            replace h6 : ex = mx := h6
            subst h4 h5 h6
            have q3 : (ex.toList == ex.toList) = true := by simp
            have q4 : (ex.toList != ex.toList) = false := by simp
            rcases h3 with rfl | rfl | rfl
            · replace x1 : W9.cell? ⟨w21.heap.size, 1, none⟩ = some (.bool false) := x1
              go_quiet (fail)
              replace HB := hidE (Mk.below_draws2 HB.out nq)
              replace HE := hidE (HE.out.below (Mk.below_draws2 (Below.refl _ _) nq))
              replace HF := hidE (HF.out.below (Mk.below_draws2 (Below.refl _ _) nq))
              replace HG := hidE (HG.out.below (Mk.below_draws2 (Below.refl _ _) nq))
              clear x1 x2 m0 m1 m2
              go_wp2
              go_roundw
              case rel => exact ⟨i + 1, by omega, by go_num, HB, HE, HF, HG⟩
              case measure => simp [RowKit.intOf]; omega
            · replace x1 : W9.cell? ⟨w21.heap.size, 1, none⟩ = some (.bool true) := x1
              go_quiet (fail)
              replace HB := hidE (Mk.below_draws2 HB.out nq)
              replace HE := hidE (HE.out.below (Mk.below_draws2 (Below.refl _ _) nq))
              replace HF := hidE (HF.out.below (Mk.below_draws2 (Below.refl _ _) nq))
              replace HG := hidE (HG.out.below (Mk.below_draws2 (Below.refl _ _) nq))
              clear x1 x2 m0 m1 m2
              go_wp2
              go_roundw
              case rel => exact ⟨i + 1, by omega, by go_num, HB, HE, HF, HG⟩
              case measure => simp [RowKit.intOf]; omega
            · replace x1 : W9.cell? ⟨w21.heap.size, 1, none⟩ = some (.bool true) := x1
              go_quiet (fail)
              replace HB := hidE (Mk.below_draws2 HB.out nq)
              replace HE := hidE (HE.out.below (Mk.below_draws2 (Below.refl _ _) nq))
              replace HF := hidE (HF.out.below (Mk.below_draws2 (Below.refl _ _) nq))
              replace HG := hidE (HG.out.below (Mk.below_draws2 (Below.refl _ _) nq))
              clear x1 x2 m0 m1 m2
              go_wp2
              go_roundw
              case rel => exact ⟨i + 1, by omega, by go_num, HB, HE, HF, HG⟩
              case measure => simp [RowKit.intOf]; omega
        · obtain ⟨n1, hn1⟩ : ∃ n1, (l.filter (fun m => m.d != 3)).length = n1 := ⟨_, rfl⟩
          go_wp2_with fail
          go_loopw [12, 13] (fun nv jv wl => ∃ j : Nat, j ≤ t.length ∧ jv = .int .i64 j ∧ nv = .int .i64 (((t.take j).filter (fun e => !covM l e.p)).length : Nat) ∧ Hid (Below w.heap.size w wl) ∧ Hid (Mk.Ents wl g1 o1 l) ∧ Hid (Ents wl g2 o2 t) ∧ Hid (Ents wl gg 0 ds)) (fun _ jv _ => t.length - (RowKit.intOf jv).toNat)
          case atStart => exact ⟨0, Nat.zero_le _, rfl, rfl, HB, HE, HF, HG⟩
          case round =>
            clear HB HE HF HG
            obtain ⟨j, hj, rfl, rfl, HB, HE, HF, HG⟩ := hrel
            by_cases hjl : j < t.length
            · obtain rfl := HA2.out (by omega)
              have hcs := cntP_succ (fun e : E => !covM l e.p) t j hjl
              have hcl := cntP_le (fun e : E => !covM l e.p) t j hj
              obtain ⟨cc, hcc⟩ : ∃ cc, ((t.take j).filter (fun e : E => !covM l e.p)).length = cc := ⟨_, rfl⟩
              rw [hcc] at hcs hcl ⊢
              have HCs := hidE hcs
              clear hcs hcc
              obtain ⟨m0, -, -⟩ := HF.out j hjl
              have hOt := HOt.out t[j] (List.getElem_mem _)
              have hCv := cov_has (l := l) (s := t[j].p)
              have hsz := (HZ'.out t[j] (List.getElem_mem _)).1
              obtain ⟨te, hte⟩ : ∃ te, t[j] = te := ⟨_, rfl⟩
              rw [hte] at m0 hOt hsz HCs hCv
              have HTe := hidE hte
              clear hte
              obtain ⟨tp, td, tx⟩ := te
              replace m0 : wr.cell? ⟨g2, o2 + j * 3, none⟩ = some (.string tp) := m0
              have HQ := hidE (fun (W : World) (hb : Below w.heap.size w W) (h1 : Ents W gg 0 ds) => HTg.out W tp hsz hb h1)
              obtain ⟨xa, hxa⟩ : ∃ xa, tgetE ds tp = xa := ⟨_, rfl⟩
              rw [show tgetE ds (E.mk tp td tx).p = xa from hxa] at hOt
              rw [hxa] at HQ
              clear hxa
              obtain ⟨⟨ep, ed, ex⟩, xp⟩ := xa
              have HOx := hidE hOt
              have HCv := hidE hCv
              clear hOt hCv
              go_wp2_with fail
              refine (HQ.out _ HB.out HG.out).mono ?_
              rintro e w21 ⟨rfl, hB⟩
              clear m0
              replace HB := hidE (B3E HB.out hB)
              replace HE := hidE (HE.out.below hB)
              replace HF := hidE (HF.out.below hB)
              replace HG := hidE (HG.out.below hB)
              clear hB
              have hB : Below w21.heap.size w21 (w21.alloc (.cells #[.string ep, .bool ed, .string ex] 32)) := (Below.refl _ _).alloc (Nat.le_refl _) _
              replace HB := hidE (B3E HB.out hB)
              replace HE := hidE (HE.out.below hB)
              replace HF := hidE (HF.out.below hB)
              replace HG := hidE (HG.out.below hB)
              clear hB
              have x0 : (w21.alloc (.cells #[.string ep, .bool ed, .string ex] 32)).cell? ⟨w21.heap.size, 0, none⟩ = some (.string ep) := by simp
              have x1 : (w21.alloc (.cells #[.string ep, .bool ed, .string ex] 32)).cell? ⟨w21.heap.size, 1, none⟩ = some (.bool ed) := by simp
              have x2 : (w21.alloc (.cells #[.string ep, .bool ed, .string ex] 32)).cell? ⟨w21.heap.size, 2, none⟩ = some (.string ex) := by simp
              have HX0 := hidE x0
              have HX1 := hidE x1
              have HX2 := hidE x2
              clear x0 x1 x2
              go_wp2_with fail
              obtain ⟨W9, hW9⟩ : ∃ W9, (w21.alloc (.cells #[.string ep, .bool ed, .string ex] 32)) = W9 := ⟨_, rfl⟩
              rw [hW9] at HB HE HF HG HX0 HX1 HX2 ⊢
              clear hW9
              have HB9 := hidE (Below.refl W9.heap.size W9)
              go_loopw [16, 17] (fun hv kv wl => ∃ k : Nat, k ≤ l.length ∧ kv = .int .i64 k ∧ hv = .bool (hasO (l.take k) tp) ∧ Hid (Below W9.heap.size W9 wl)) (fun _ kv _ => l.length - (RowKit.intOf kv).toNat)
              case atStart => exact ⟨0, Nat.zero_le _, rfl, rfl, HB9⟩
              case round =>
                clear HB9
                obtain ⟨k, hk, rfl, rfl, HW⟩ := hrel
                by_cases hkl : k < l.length
                · obtain rfl := HA1.out (by omega)
                  obtain ⟨c0, -, -⟩ := (HE.out.below HW.out) k hkl
                  obtain ⟨e0, -, -⟩ := (HF.out.below HW.out) j hjl
                  rw [HTe.out] at e0
                  replace e0 : wr.cell? ⟨g2, o2 + j * 3, none⟩ = some (.string tp) := e0
                  have HS := hidE (hasO_succ (s := tp) hkl)
                  obtain ⟨u, hu⟩ : ∃ u, l[k].p = u := ⟨_, rfl⟩
                  rw [hu] at c0 HS
                  clear hu
                  obtain ⟨hb, hhb⟩ : ∃ hb, hasO (l.take k) tp = hb := ⟨_, rfl⟩
                  rw [hhb] at HS ⊢
                  clear hhb
                  cases hb with
                  | true =>
                    go_wp2
                    go_quiet (fail)
                    have HW9 := hidE (Mk.below_draws2 HW.out nq)
                    go_wp2
                    go_roundw
                    case rel => exact ⟨k + 1, by omega, by go_num, by rw [HS.out]; rfl, HW9⟩
                    case measure => simp [RowKit.intOf]; omega
                  | false =>
                    obtain ⟨eb, heb⟩ : ∃ eb, (u.toList == tp.toList) = eb := ⟨_, rfl⟩
                    rw [heb] at HS
                    go_wp2
                    go_quiet (fail)
                    have HW9 := hidE (Mk.below_draws2 HW.out nq)
                    go_wp2
                    go_roundw
                    case rel => exact ⟨k + 1, by omega, by go_num, by rw [HS.out]; rfl, HW9⟩
                    case measure => simp [RowKit.intOf]; omega
                · have hke : l.take k = l := List.take_of_length_le (by omega)
                  rw [hke]
                  replace HB := hidE (B3E HB.out HW.out)
                  replace HE := hidE (HE.out.below HW.out)
                  replace HF := hidE (HF.out.below HW.out)
                  replace HG := hidE (HG.out.below HW.out)
                  have x0 := below_cell HW.out HX0.out
                  have x1 := below_cell HW.out HX1.out
                  have x2 := below_cell HW.out HX2.out
                  clear HX0 HX1 HX2 HW
                  cases hb : hasO l tp with
                  | true =>
                    have hcv : covM l tp = true := HCv.out hb
                    go_wp2
                    go_quiet (fail)
                    replace HB := hidE (Mk.below_draws2 HB.out nq)
                    replace HE := hidE (HE.out.below (Mk.below_draws2 (Below.refl _ _) nq))
                    replace HF := hidE (HF.out.below (Mk.below_draws2 (Below.refl _ _) nq))
                    replace HG := hidE (HG.out.below (Mk.below_draws2 (Below.refl _ _) nq))
                    clear x0 x1 x2
                    go_wp2
                    go_roundw
                    case rel => exact ⟨j + 1, by omega, by go_num, by rw [HCs.out, show covM l (E.mk tp td tx).p = true from hcv]; rfl, HB, HE, HF, HG⟩
                    case measure => simp [RowKit.intOf]; omega
                  | false =>
                    have hcase := HOx.out hb
                    have HLt := hidE (fun (W : World) (h1 : Mk.Ents W g1 o1 l) => HLh.out W tp hsz h1)
                    obtain ⟨d0, d1, d2⟩ := HF.out j hjl
                    rw [HTe.out] at d0 d1 d2
                    replace d0 : wr.cell? ⟨g2, o2 + j * 3, none⟩ = some (.string tp) := d0
                    replace d1 : wr.cell? ⟨g2, o2 + j * 3 + 1, none⟩ = some (.bool td) := d1
                    replace d2 : wr.cell? ⟨g2, o2 + j * 3 + 2, none⟩ = some (.string tx) := d2
                    have x0k := cell_regrown x0
                    have x1k := cell_regrown x1
                    have x2k := cell_regrown x2
                    have d0k := cell_regrown d0
                    have d1k := cell_regrown d1
                    have d2k := cell_regrown d2
                    rcases hcase with ⟨h1, h2, h3, h4⟩ | ⟨h1, h2, h4⟩
                    · replace h1 : xp = true := h1
                      have hcv : covM l tp = false := h4
                      rw [show Mk.layHides l tp = false from h3] at HLt
                      obtain ⟨rfl, rfl, rfl⟩ : ep = tp ∧ ed = td ∧ ex = tx := by
                        injection h2 with z1 z2 z3
                        exact ⟨z1, z2, z3⟩
                      subst h1
                      have r0 := fun (d : Nat) (os : Array Obj) => Calls.regrown_of (HLt.out (grow (redrawn wr d) os) (HE.out.below (below_regrown wr d os)))
                      have q1 : (ep.toList == ep.toList) = true := by simp
                      have q2 : (ed == ed) = true := by simp
                      have q3 : (ex.toList == ex.toList) = true := by simp
                      go_wp2
                      refine wp_region_quiet_below (by kernel_rfl) (by kernel_rfl) ?_
                      repeat (go_big_quiet_step (first | exact r0 _ _))
                      refine wpQuiet_nil ?_
                      intro w4 hw'
                      obtain ⟨⟨dq, osq⟩, hw''⟩ := hw'
                      have hB : Below wr.heap.size wr w4 := by rw [hw'']; exact below_regrown wr dq osq
                      clear hw'' x0k x1k x2k d0k d1k d2k r0 d0 d1 d2
                      replace HB := hidE (B3E HB.out hB)
                      replace HE := hidE (HE.out.below hB)
                      replace HF := hidE (HF.out.below hB)
                      replace HG := hidE (HG.out.below hB)
                      clear hB
                      clear x0 x1 x2
                      go_wp2
                      go_roundw
                      case rel => exact ⟨j + 1, by omega, by go_num, by rw [HCs.out, show covM l (E.mk ep ed ex).p = false from hcv]; go_num, HB, HE, HF, HG⟩
                      case measure => simp [RowKit.intOf]; omega
                    · replace h1 : xp = false := h1
                      have hcv : covM l tp = true := h4
                      rw [show Mk.layHides l tp = true from h2] at HLt
                      subst h1
                      have r0 := fun (d : Nat) (os : Array Obj) => Calls.regrown_of (HLt.out (grow (redrawn wr d) os) (HE.out.below (below_regrown wr d os)))
                      go_wp2
                      refine wp_region_quiet_below (by kernel_rfl) (by kernel_rfl) ?_
                      repeat (go_big_quiet_step (first | exact r0 _ _))
                      refine wpQuiet_nil ?_
                      intro w4 hw'
                      obtain ⟨⟨dq, osq⟩, hw''⟩ := hw'
                      have hB : Below wr.heap.size wr w4 := by rw [hw'']; exact below_regrown wr dq osq
                      clear hw'' x0k x1k x2k d0k d1k d2k r0 d0 d1 d2
                      replace HB := hidE (B3E HB.out hB)
                      replace HE := hidE (HE.out.below hB)
                      replace HF := hidE (HF.out.below hB)
                      replace HG := hidE (HG.out.below hB)
                      clear hB
                      clear x0 x1 x2
                      go_wp2
                      go_roundw
                      case rel => exact ⟨j + 1, by omega, by go_num, by rw [HCs.out, show covM l (E.mk tp td tx).p = true from hcv]; rfl, HB, HE, HF, HG⟩
                      case measure => simp [RowKit.intOf]; omega
            · have hje : t.take j = t := List.take_of_length_le (by omega)
              rw [hje]
              have hcl : (t.filter (fun e : E => !covM l e.p)).length ≤ 17 := by have := List.length_filter_le (fun e : E => !covM l e.p) t; omega
              have hcn := HCn.out
              obtain ⟨cc, hcc⟩ : ∃ cc, (t.filter (fun e : E => !covM l e.p)).length = cc := ⟨_, rfl⟩
              rw [hcc] at hcl hcn ⊢
              clear hcc HCn
              have HCn := hidE hcn
              clear hcn
              go_wp2_with fail
              go_loopw [12, 18] (fun nv kv wl => ∃ k : Nat, k ≤ l.length ∧ kv = .int .i64 k ∧ nv = .int .i64 ((cc + ((l.take k).filter (fun m => m.d != 3)).length : Nat) : Int) ∧ Hid (Below w.heap.size w wl) ∧ Hid (Mk.Ents wl g1 o1 l) ∧ Hid (Ents wl gg 0 ds)) (fun _ kv _ => l.length - (RowKit.intOf kv).toNat)
              case atStart => exact ⟨0, Nat.zero_le _, rfl, rfl, HB, HE, HG⟩
              case round =>
                clear HB HE HF HG
                obtain ⟨k, hk, rfl, rfl, HB, HE, HG⟩ := hrel
                by_cases hkl : k < l.length
                · obtain rfl := HA1.out (by omega)
                  have hks := cntP_succ (fun m : Mk.E => m.d != 3) l k hkl
                  have hkc := cntP_le (fun m : Mk.E => m.d != 3) l k hk
                  obtain ⟨kk, hkk⟩ : ∃ kk, ((l.take k).filter (fun m : Mk.E => m.d != 3)).length = kk := ⟨_, rfl⟩
                  rw [hkk] at hks hkc ⊢
                  clear hkk
                  obtain ⟨-, m1, -⟩ := HE.out k hkl
                  obtain ⟨md, hmd⟩ : ∃ md, l[k].d = md := ⟨_, rfl⟩
                  rw [hmd] at m1 hks
                  have HKs := hidE hks
                  clear hmd hks
                  cases hb : (md != 3) with
                  | false =>
                    go_wp2
                    go_roundw
                    case rel => exact ⟨k + 1, by omega, by go_num, by rw [HKs.out, hb]; rfl, HB, HE, HG⟩
                    case measure => simp [RowKit.intOf]; omega
                  | true =>
                    go_wp2
                    go_roundw
                    case rel => exact ⟨k + 1, by omega, by go_num, by rw [HKs.out, hb]; go_num, HB, HE, HG⟩
                    case measure => simp [RowKit.intOf]; omega
                · have hke : l.take k = l := List.take_of_length_le (by omega)
                  rw [hke, HCn.out]
                  go_wp2_with fail
                  refine (HTo.out _ HB.out HG.out).mono ?_
                  rintro e w30 ⟨rfl, hB⟩
                  replace HB := hidE (B3E HB.out hB)
                  have q5 : ((ds.length : Int) == (ds.length : Int)) = true := by simp
                  go_wp2
                  go_ret
                  exact ⟨rfl, HB.out⟩
  · have hn : (1048576 : Int) < len := by omega
    go_enter Tryz.func3, Tryz.ntmps3
    go_wp2
    go_ret
    exact ⟨rfl, Below.refl _ _⟩
end Go.Proofs.YtkjpmngohocmlaaGreatDoor.Ly
