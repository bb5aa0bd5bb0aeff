/-
  The walk of the law FnLayerBare, out of the contracts.
-/
import Derived.Lib.QuietBelow
import Derived.Test.YtkjpmngohocmlaaGreatDoorHLyBare
import Derived.Test.YtkjpmngohocmlaaGreatDoorHLyOn
import Derived.Test.YtkjpmngohocmlaaGreatDoorHDrawOn
import Derived.Test.YtkjpmngohocmlaaGreatDoorHUnderI
import Derived.Test.YtkjpmngohocmlaaGreatDoorHLawTop
import Derived.Test.YtkjpmngohocmlaaGreatDoorHLySz
namespace Go.Proofs.YtkjpmngohocmlaaGreatDoor.Ly
open Go.RowKit Go.Lib Go.Sort

def hasM (l : List Mk.E) (s : ByteArray) : Bool := l.any (fun m => m.p.toList == s.toList)
theorem hasM_succ {l : List Mk.E} {s : ByteArray} {j : Nat} (h : j < l.length) : hasM (l.take (j + 1)) s = (hasM (l.take j) s || (l[j].p.toList == s.toList)) := by
  unfold hasM; rw [List.take_succ_eq_append_getElem h, List.any_append]; simp
theorem hasM_in {l : List Mk.E} {s : ByteArray} (h : ∃ k ∈ l, k.p = s) : hasM l s = true := by
  obtain ⟨k, hk, rfl⟩ := h
  unfold hasM; rw [List.any_eq_true]; exact ⟨k, hk, by simp⟩

set_option maxHeartbeats 4000000 in
set_option maxRecDepth 100000 in
theorem walk_fnLayerBare (ae : Int → Addr) (a : Option Addr) (len cap : Nat) (zs : List Int) (w : World) (hErr : Errs2 w ae) (hw : IsRow .u8 w a len cap zs) :
    Calls Tryz.prog 4 #[.slice a len cap] w fun e w' => e = .returned (.bool true) ∧ Below w.heap.size w w' := by
  have hC := hidR hw.cod
  have HEr := hidE (fun (W : World) (h : Below w.heap.size w W) => hErr.below h)
  clear hw hErr
  by_cases hl : len ≤ 1048576
  · go_enter Tryz.func4, Tryz.ntmps4
    go_wp2_with fail
    refine (DrawLayerOn_any _ a len cap hl hC.out).mono ?_
    rintro e w1 ⟨v, v', l, t, rfl, hL, hD, hM, hS, hB⟩
    obtain ⟨a1, g1, o1, c1, rfl, ha1, hE, hc1, -⟩ := hL
    obtain ⟨a2, g2, o2, c2, rfl, ha2, hF, hc2, -⟩ := hM
    have HB1 := hidE hB
    have HE1 := hidE hE
    have HF1 := hidE hF
    have HA1 := hidE ha1
    have HA2 := hidE ha2
    have HZ : Hid (∀ e ∈ l, e.p.size ≤ 16777216 ∧ e.x.size ≤ 16777216) := fun e he => ⟨by have := Mk.okP_size (hD.2 e he).1; omega, by have := (hD.2 e he).2; omega⟩
    have HZ' : Hid (∀ e ∈ t, e.p.size ≤ 16777216 ∧ e.x.size ≤ 16777216) := fun e he => ⟨by have := (hS.2 e he).1; omega, by have := (hS.2 e he).2; omega⟩
    have hlen : l.length ≤ 33 := hD.1
    have hlen' : t.length ≤ 17 := hS.1
    have HIm := hidE (fun (W : World) (h0 : Errs2 W ae) (h1 : Mk.Ents W g1 o1 l) (h2 : Ents W g2 o2 t) => iLayerOn_any W a1 g1 o1 c1 l a2 g2 o2 c2 t ae h0 (by omega) (by omega) HZ.out HZ'.out HA1.out HA2.out h1 h2)
    have HSp := hidE (fun (W : World) (h1 : Mk.Ents W g1 o1 l) (h2 : Ents W g2 o2 t) => sLayerOn_any W a1 g1 o1 c1 l a2 g2 o2 c2 t (by omega) (by omega) hc1 hc2 HZ.out HZ'.out HA1.out HA2.out h1 h2)
    clear hB hE hF ha1 ha2 hD hS hC
    cases hon : onB l t with
    | false =>
      rw [hon] at HIm HSp
      go_wp2_with fail
      refine (HIm.out _ (HEr.out _ HB1.out) HE1.out HF1.out).mono ?_
      rintro e w2 ⟨vg, rfl, -, hB2⟩
      have HB2 := hidE (B3E HB1.out hB2)
      have HE2 := hidE (HE1.out.below hB2)
      have HF2 := hidE (HF1.out.below hB2)
      clear hB2
      go_wp2_with fail
      refine (HSp.out _ HE2.out HF2.out).mono ?_
      rintro e w3 ⟨vw, rfl, -, hB3⟩
      have HB3 := hidE (B3E HB2.out hB3)
      clear hB3
      go_wp2
      go_ret
      exact ⟨rfl, HB3.out⟩
    | true =>
      rw [hon] at HIm HSp
      obtain ⟨p1, p2, p3, p4⟩ := on_is hon
      have HQ : Hid (∀ e ∈ onE l t, ∀ m ∈ l, m.d ≠ 2 → underI e.p m.p = true → m.d = 4 ∧ ∃ k ∈ l, k.p = e.p) := fun e he m hm h1 h2 => by
        rw [p4] at he
        exact bare_on (lay_tr' p1) (treeE_tr p2).1 he hm h1 h2
      have HZd : Hid (∀ e ∈ onE l t, e.p.size ≤ 16777216 ∧ e.x.size ≤ 16777216) := by rw [p4]; exact on_sz (lay_tr' p1) (treeE_tr p2).1 HZ.out HZ'.out
      have hdl : (onE l t).length ≤ 16 := by rw [p4]; exact p3
      obtain ⟨ds, hds⟩ : ∃ ds, onE l t = ds := ⟨_, rfl⟩
      rw [hds] at HIm HSp HQ HZd hdl
      clear hds p1 p2 p3 p4 hon
      go_wp2_with fail
      refine (HIm.out _ (HEr.out _ HB1.out) HE1.out HF1.out).mono ?_
      rintro e w2 ⟨vg, rfl, hrow, hB2⟩
      obtain ⟨ag, gg, capg, rfl, hag, hG, -, -⟩ := hrow
      have HB2 := hidE (B3E HB1.out hB2)
      have HE2 := hidE (HE1.out.below hB2)
      have HF2 := hidE (HF1.out.below hB2)
      have HG2 := hidE hG
      have HAg := hidE hag
      clear hB2 hG hag HIm
      go_wp2_with fail
      refine (HSp.out _ HE2.out HF2.out).mono ?_
      rintro e w3 ⟨vw, rfl, -, hB3⟩
      have HB3 := hidE (B3E HB2.out hB3)
      have HE3 := hidE (HE2.out.below hB3)
      have HG3 := hidE (HG2.out.below hB3)
      clear hB3 HSp HB1 HE1 HF1 HB2 HE2 HF2 HG2
      go_wp2_with fail
      go_loopw [9] (fun iv wl => ∃ i : Nat, i ≤ l.length ∧ iv = .int .i64 i ∧ Hid (Below w.heap.size w wl) ∧ Hid (Mk.Ents wl g1 o1 l) ∧ Hid (Ents wl gg 0 ds)) (fun iv _ => l.length - (RowKit.intOf iv).toNat)
      case atStart => exact ⟨0, Nat.zero_le _, rfl, HB3, HE3, HG3⟩
      case round =>
        clear HB3 HE3 HG3
        obtain ⟨i, hi, rfl, HB, HE, HG⟩ := hrel
        by_cases hil : i < l.length
        · obtain rfl := HA1.out (by omega)
          go_wp2
          go_loopw [10] (fun kv wl => ∃ k : Nat, k ≤ ds.length ∧ kv = .int .i64 k ∧ Hid (Below w.heap.size w wl) ∧ Hid (Mk.Ents wl g1 o1 l) ∧ Hid (Ents wl gg 0 ds)) (fun kv _ => ds.length - (RowKit.intOf kv).toNat)
          case atStart => exact ⟨0, Nat.zero_le _, rfl, HB, HE, HG⟩
          case round =>
            clear HB HE HG
            obtain ⟨k, hk, rfl, HB, HE, HG⟩ := hrel
            by_cases hkl : k < ds.length
            · obtain rfl := HAg.out (by omega)
              obtain ⟨m0, m1, m2⟩ := HE.out i hil
              obtain ⟨d0, d1, d2⟩ := HG.out k hkl
              have HQk := hidE (HQ.out ds[k] (List.getElem_mem _) l[i] (List.getElem_mem _))
              have hms := (HZ.out l[i] (List.getElem_mem _)).1
              have hds := (HZd.out ds[k] (List.getElem_mem _)).1
              obtain ⟨mp, hmp⟩ : ∃ mp, l[i].p = mp := ⟨_, rfl⟩
              obtain ⟨md, hmd⟩ : ∃ md, l[i].d = md := ⟨_, rfl⟩
              obtain ⟨dp, hdp⟩ : ∃ dp, ds[k].p = dp := ⟨_, rfl⟩
              rw [hmp] at m0 HQk hms
              rw [hmd] at m1 HQk
              rw [hdp] at d0 HQk hds
              have HDp := hidE hdp
              have HMd := hidE hmd
              clear hmp hmd hdp m2 d1 d2
              simp only [Nat.zero_add] at d0
              have m0k := cell_regrown m0
              have m1k := cell_regrown m1
              have d0k := cell_regrown d0
              cases h2 : (md == 2) with
              | true =>
                have h2' : md = 2 := by simpa using h2
                clear HQk
                subst h2'
                go_wp2
                refine wp_region_quiet_below (by kernel_rfl) (by kernel_rfl) ?_
                repeat (go_big_quiet_step (fail))
                refine wpQuiet_nil ?_
                intro w4 hw'
                obtain ⟨⟨dq, osq⟩, hw''⟩ := hw'
                have hB : Below wr.heap.size wr w4 := by rw [hw'']; exact below_regrown wr dq osq
                clear hw'' m0k m1k d0k
                replace HB := hidE (B3E HB.out hB)
                replace HE := hidE (HE.out.below hB)
                replace HG := hidE (HG.out.below hB)
                clear hB
                go_wp2
                go_roundw
                case rel => exact ⟨k + 1, by omega, by go_num, HB, HE, HG⟩
                case measure => simp [RowKit.intOf]; omega
              | false =>
                have h2' : md ≠ 2 := by simpa using h2
                obtain ⟨ub, hub⟩ : ∃ ub, underI dp mp = ub := ⟨_, rfl⟩
                rw [hub] at HQk
                have hcu := iPathUnder_any dp mp hds hms
                rw [hub] at hcu
                have r0 := fun (d : Nat) (os : Array Obj) => Calls.regrown_of (hcu (grow (redrawn wr d) os))
                clear hub hcu
                go_wp2
                refine wp_region_quiet_below (by kernel_rfl) (by kernel_rfl) ?_
                repeat (go_big_quiet_step (first | exact r0 _ _))
                refine wpQuiet_nil ?_
                intro w4 hw'
                obtain ⟨⟨dq, osq⟩, hw''⟩ := hw'
                have hB : Below wr.heap.size wr w4 := by rw [hw'']; exact below_regrown wr dq osq
                clear hw'' m0k m1k d0k r0
                replace HB := hidE (B3E HB.out hB)
                replace HE := hidE (HE.out.below hB)
                replace HG := hidE (HG.out.below hB)
                clear hB m0 m1 d0
                cases ub with
                | false =>
                  go_wp2
                  go_roundw
                  case rel => exact ⟨k + 1, by omega, by go_num, HB, HE, HG⟩
                  case measure => simp [RowKit.intOf]; omega
                | true =>
                  obtain ⟨h4, hex⟩ := HQk.out h2' rfl
                  have HH := hidE (hasM_in hex)
                  clear HQk hex
                  go_wp2
                  go_loopw [11, 12] (fun hv jv wl => ∃ j : Nat, j ≤ l.length ∧ jv = .int .i64 j ∧ hv = .bool (hasM (l.take j) dp) ∧ Hid (Below w.heap.size w wl) ∧ Hid (Mk.Ents wl g1 o1 l) ∧ Hid (Ents wl gg 0 ds)) (fun _ jv _ => l.length - (RowKit.intOf jv).toNat)
                  case atStart => exact ⟨0, Nat.zero_le _, rfl, rfl, HB, HE, HG⟩
                  case round =>
                    clear HB HE HG
                    obtain ⟨j, hj, rfl, rfl, HB, HE, HG⟩ := hrel
                    by_cases hjl : j < l.length
                    · obtain ⟨c0, -, -⟩ := HE.out j hjl
                      obtain ⟨e0, -, -⟩ := HG.out k hkl
                      have HS := hidE (hasM_succ (s := dp) hjl)
                      obtain ⟨u, hu⟩ : ∃ u, l[j].p = u := ⟨_, rfl⟩
                      rw [hu] at c0 HS
                      have hdk := HDp.out
                      rw [hdk] at e0
                      simp only [Nat.zero_add] at e0
                      clear hu hdk
                      obtain ⟨hb, hhb⟩ : ∃ hb, hasM (l.take j) dp = hb := ⟨_, rfl⟩
                      rw [hhb] at HS ⊢
                      clear hhb
                      cases hb with
                      | true =>
                        go_wp2
                        go_quiet (fail)
                        have HB9 := hidE (Mk.below_draws2 HB.out nq)
                        have HE9 := hidE (HE.out.below (Mk.below_draws2 (Below.refl _ _) nq))
                        have HG9 := hidE (HG.out.below (Mk.below_draws2 (Below.refl _ _) nq))
                        go_wp2
                        go_roundw
                        case rel => exact ⟨j + 1, by omega, by go_num, by rw [HS.out]; rfl, HB9, HE9, HG9⟩
                        case measure => simp [RowKit.intOf]; omega
                      | false =>
                        obtain ⟨eb, heb⟩ : ∃ eb, (u.toList == dp.toList) = eb := ⟨_, rfl⟩
                        rw [heb] at HS
                        go_wp2
                        go_quiet (fail)
                        have HB9 := hidE (Mk.below_draws2 HB.out nq)
                        have HE9 := hidE (HE.out.below (Mk.below_draws2 (Below.refl _ _) nq))
                        have HG9 := hidE (HG.out.below (Mk.below_draws2 (Below.refl _ _) nq))
                        go_wp2
                        go_roundw
                        case rel => exact ⟨j + 1, by omega, by go_num, by rw [HS.out]; rfl, HB9, HE9, HG9⟩
                        case measure => simp [RowKit.intOf]; omega
                    · have hje : l.take j = l := List.take_of_length_le (by omega)
                      rw [hje, HH.out]
                      obtain ⟨-, m1, -⟩ := HE.out i hil
                      rw [HMd.out, h4] at m1
                      go_wp2
                      go_roundw
                      case rel => exact ⟨k + 1, by omega, by go_num, HB, HE, HG⟩
                      case measure => simp [RowKit.intOf]; omega
            · go_wp2
              go_roundw
              case rel => exact ⟨i + 1, by omega, by go_num, HB, HE, HG⟩
              case measure => simp [RowKit.intOf]; omega
        · go_wp2
          go_ret
          exact ⟨rfl, HB.out⟩
  · have hn : (1048576 : Int) < len := by omega
    go_enter Tryz.func4, Tryz.ntmps4
    go_wp2
    go_ret
    exact ⟨rfl, Below.refl _ _⟩
end Go.Proofs.YtkjpmngohocmlaaGreatDoor.Ly
