/-
  The walk of the law FnLayerLeast, out of the contracts.
-/
import Derived.Lib.QuietBelow
import Derived.Deep.RegionLaw
import Derived.Test.YtkjpmngohocmlaaGreatDoorHLyDfK
import Derived.Test.YtkjpmngohocmlaaGreatDoorHLyFewK
import Derived.Test.YtkjpmngohocmlaaGreatDoorHUnderI
import Derived.Test.YtkjpmngohocmlaaGreatDoorHPk21
import Derived.Test.YtkjpmngohocmlaaGreatDoorHPk37
import Derived.Test.YtkjpmngohocmlaaGreatDoorHLyOn
import Derived.Test.YtkjpmngohocmlaaGreatDoorHPk30
import Derived.Test.YtkjpmngohocmlaaGreatDoorHSameI
import Derived.Test.YtkjpmngohocmlaaGreatDoorHMkSameI
import Derived.Test.YtkjpmngohocmlaaGreatDoorHPk27
namespace Go.Proofs.YtkjpmngohocmlaaGreatDoor.Ly
open Go.RowKit Go.Lib Go.Sort

theorem sameT_reX : ∀ es : List E, sameT es es = true
  | [] => rfl
  | e :: r => by
    show (sameT1 e e && sameT r r) = true
    rw [sameT_reX r, Bool.and_true]
    unfold sameT1; simp
theorem sameM_reX : ∀ es : List Mk.E, Mk.sameT es es = true
  | [] => rfl
  | e :: r => by
    show (Mk.sameT1 e e && Mk.sameT r r) = true
    rw [sameM_reX r, Bool.and_true]
    unfold Mk.sameT1; simp
theorem sameT_iffX : ∀ es fs : List E, sameT es fs = true ↔ es = fs
  | [], [] => by simp [sameT]
  | [], _ :: _ => by simp [sameT]
  | _ :: _, [] => by simp [sameT]
  | e :: r, f :: q => by
    show (sameT1 e f && sameT r q) = true ↔ _
    rw [Bool.and_eq_true, sameT1_iff, sameT_iffX r q, List.cons.injEq]
theorem rest_ne {l : List Mk.E} (h : Mk.Rise l) {k : Nat} (hk : k < l.length) : ∀ m ∈ l.take k ++ l.drop (k + 1), m ∈ l ∧ m.p ≠ l[k].p := by
  have e : l.take k ++ l[k] :: l.drop (k + 1) = l := by rw [← List.drop_eq_getElem_cons hk, List.take_append_drop]
  have h' : Mk.Rise (l.take k ++ l[k] :: l.drop (k + 1)) := by rw [e]; exact h
  obtain ⟨-, h2, h3⟩ := List.pairwise_append.1 h'
  obtain ⟨h2, -⟩ := List.pairwise_cons.1 h2
  intro m hm
  rcases List.mem_append.1 hm with hm | hm
  · have := h3 m hm l[k] (List.mem_cons_self ..)
    exact ⟨List.mem_of_mem_take hm, fun q => by rw [q] at this; exact less_irrefl _ this⟩
  · have := h2 m hm
    exact ⟨List.mem_of_mem_drop hm, fun q => by rw [q] at this; exact less_irrefl _ this⟩
theorem ents_takeX {w : World} {g o : Nat} {es : List Mk.E} (h : Mk.Ents w g o es) (k : Nat) : Mk.Ents w g o (es.take k) := by
  intro i hi
  rw [List.getElem_take]
  rw [List.length_take] at hi
  exact h i (by omega)
set_option maxRecDepth 100000 in
/-- A list of marks is appended to one that lies by itself, as a step of a region that draws. -/
theorem stepE_append {w : World} {ops : Array Oper} {o : Oper} {a : Act} {K : Act → World → Prop} {Q : Exit → Act → World → Prop} {E0 : Prop} (hgd : o.guard = none) (s x : Operand)
    (ho : o.op = .call { callee := .builtin .append, args := #[s, x], argTypes := #[23, 23] })
    (base : Nat) (v : Value) (es : List Mk.E) (hs : a.eval s = v) (hown : Mk.OwnE w base v es)
    (ax : Option Addr) (c g of : Nat) (fs : List Mk.E) (m : Nat) (hm : fs.length = m) (hx : a.eval x = .slice ax m c) (hax : 0 < fs.length → ax = some ⟨g, of, none⟩) (hF : Mk.Ents w g of fs)
    (hl : es.length + fs.length ≤ 2097152) (hbase : base ≤ w.heap.size)
    (h : ∀ v' w', Mk.OwnE w' base v' (es ++ fs) → w.grownBy w' v.ownBlock → K (a.put o.dst v') w') : if Region.wanted o (yielded ops a.tmps) = true then Oper.wp Tryz.prog o a w K Q else E0 := by
  have hw : Region.wanted o (yielded ops a.tmps) = true := by simp [Region.wanted, hgd]
  rw [if_pos hw]
  obtain ⟨i0, hi, hz0, hz1, hz2⟩ := info_parts Mk.Tryz.infoE'
  subst hm
  by_cases hm : 0 < fs.length
  · obtain rfl := hax hm
    refine wp_append_own w s x 23 ho base 36 i0 _ 3 40 Tryz.underlying23 hi hz0 hz1 hz2 rfl (by decide) v es.length (Mk.rowE es) hs hown _ _ _ (Mk.rowE fs) hx (Mk.rowE_len fs) (Mk.rowE_cells hF) Mk.rowE_oneCell (by unfold maxLen; omega) (by omega) hbase ?_
    intro v' w' ho' hg _
    refine h v' w' ?_ hg
    show World.ownsRow w' base 36 3 v' (es ++ fs).length (Mk.rowE (es ++ fs))
    rw [Mk.rowE_append, List.length_append]; exact ho'
  · have h0 : fs = [] := List.length_eq_zero_iff.1 (by omega)
    subst h0
    unfold Oper.wp execOp
    have hv : ∃ b n cap, v = .slice b n cap ∧ n ≤ cap := by
      obtain ⟨_, ⟨rfl, _⟩ | ⟨g, cap, cur, rfl, _, _, hcap, _⟩⟩ := hown
      · exact ⟨_, _, _, rfl, Nat.le_refl _⟩
      · exact ⟨_, _, _, rfl, hcap⟩
    obtain ⟨b, n, cap, rfl, hle⟩ := hv
    have hr := Mk.run_append_no w i0 hi o.type b n cap hle ax c
    have hx' : a.eval x = .slice ax 0 c := hx
    simp only [ho, resolve, invoke, builtin, Sem.run_bind, Sem.run_pure, Result.andThen_ok, List.map_toArray, List.map_cons, List.map_nil, hs, hx', hr]
    exact h _ _ (by rw [List.append_nil]; exact hown) ⟨rfl, rfl, rfl, Nat.le_refl _, fun _ _ _ => rfl⟩
set_option maxHeartbeats 4000000 in
set_option maxRecDepth 100000 in
theorem walk_fnLayerLeast (ae : Int → Addr) (a : Option Addr) (len cap : Nat) (zs : List Int) (b : Option Addr) (len2 cap2 : Nat) (ys : List Int) (w : World) (hErr : Errs2 w ae) (hw : IsRow .u8 w a len cap zs) (hw2 : IsRow .u8 w b len2 cap2 ys) :
    Calls Tryz.prog 8 #[.slice a len cap, .slice b len2 cap2] w fun e w' => e = .returned (.bool true) ∧ Below w.heap.size w w' := by
  have HC := hidR hw.cod
  have HC2 := hidR hw2.cod
  have HEr := hidE (fun (W : World) (h : Below w.heap.size w W) => hErr.below h)
  clear hw hw2 hErr
  by_cases hl : len ≤ 1048576
  · by_cases hl2 : len2 ≤ 1048576
    · go_enter Tryz.func8, Tryz.ntmps8
      go_wp2_with fail
      refine (DrawLayerDiff_any _ a len cap hl HC.out).mono ?_
      rintro e v1 ⟨v, v', lA, lU, rfl, hLA, hLU, hDA, hDU, hB⟩
      obtain ⟨aA, gA, oA, cA, rfl, haA, hEA, hcA, -⟩ := hLA
      have HA := hidE hEA
      have HAA := hidE haA
      obtain ⟨aU, gU, oU, cU, rfl, haU, hEU, hcU, -⟩ := hLU
      have HU := hidE hEU
      have HAU := hidE haU
      have HZA : Hid (∀ e ∈ lA, e.p.size ≤ 16777216 ∧ e.x.size ≤ 16777216) := fun e he => ⟨by have := (hDA.2 e he).1; omega, by have := (hDA.2 e he).2; omega⟩
      have hlA : lA.length ≤ 17 := hDA.1
      clear hEA haA hDA
      have HZU : Hid (∀ e ∈ lU, e.p.size ≤ 16777216 ∧ e.x.size ≤ 16777216) := fun e he => ⟨by have := (hDU.2 e he).1; omega, by have := (hDU.2 e he).2; omega⟩
      have hlU : lU.length ≤ 17 := hDU.1
      clear hEU haU hDU
      have HB := hidE (Below.refl w.heap.size w)
      replace HC2 := hidR (HC2.out.below hB)
      replace HB := hidE (B3E HB.out hB)
      clear hB
      obtain ⟨lX, hqX⟩ : ∃ lX, diffE lA lU = lX := ⟨_, rfl⟩
      have HQX := hidE hqX
      have hsX := diff_sz HZA.out HZU.out
      rw [hqX] at hsX
      have hlX := hsX.1
      have HZX := hidE hsX.2
      clear hsX hqX
      go_wp2_with fail
      refine (iLayerDiff_any _ aA gA oA cA lA aU gU oU cU lU ae (HEr.out _ HB.out) (by omega) (by omega) HZA.out HZU.out HAA.out HAU.out HA.out HU.out).mono ?_
      rintro e v2 ⟨vx, rfl, ho, hB⟩
      rw [HQX.out] at ho
      obtain ⟨aX, gX, cX, rfl, haX, hEX, hcX⟩ := Mk.OwnE.ents ho
      have HX := hidE hEX
      have HAX := hidE haX
      clear ho haX hEX
      replace HB := hidE (B3E HB.out hB)
      replace HA := hidE (HA.out.below hB)
      replace HU := hidE (HU.out.below hB)
      clear hB
      go_wp2_with fail
      refine (sLayerDiff_any _ aA gA oA cA lA aU gU oU cU lU (by omega) (by omega) hcA hcU HZA.out HZU.out HAA.out HAU.out HA.out HU.out).mono ?_
      rintro e v3 ⟨vk, rfl, ho, hB⟩
      rw [HQX.out] at ho
      obtain ⟨aK, gK, oK, cK, rfl, haK, hEK, hcK, -⟩ := ho
      have HK := hidE hEK
      have HAK := hidE haK
      clear haK hEK
      replace HB := hidE (B3E HB.out hB)
      replace HA := hidE (HA.out.below hB)
      replace HU := hidE (HU.out.below hB)
      replace HX := hidE (HX.out.below hB)
      clear hB
      have HSX := hidE (fun (W : World) (h1 : Mk.Ents W gX 0 lX) (h2 : Mk.Ents W gK oK lX) => Mk.iTreeSame_any W aX gX 0 cX lX aK gK oK cK lX (by omega) (by omega) HAX.out HAK.out h1 h2)
      rw [sameM_reX] at HSX
      go_wp2_with fail
      refine (HSX.out _ HX.out HK.out).mono ?_
      rintro e v4 ⟨rfl, hB⟩
      replace HB := hidE (B3E HB.out hB)
      replace HA := hidE (HA.out.below hB)
      replace HU := hidE (HU.out.below hB)
      replace HX := hidE (HX.out.below hB)
      replace HK := hidE (HK.out.below hB)
      clear hB
      cases hx1 : ((lX.length : Int) == 0) with
      | true =>
        go_wp2_with fail
        refine (sLayerDiff_any _ aA gA oA cA lA aU gU oU cU lU (by omega) (by omega) hcA hcU HZA.out HZU.out HAA.out HAU.out HA.out HU.out).mono ?_
        rintro e v6 ⟨vm, rfl, ho, hB⟩
        rw [HQX.out] at ho
        obtain ⟨aM, gM, oM, cM, rfl, haM, hEM, hcM, -⟩ := ho
        have HM := hidE hEM
        have HAM := hidE haM
        clear haM hEM
        replace HB := hidE (B3E HB.out hB)
        replace HA := hidE (HA.out.below hB)
        replace HU := hidE (HU.out.below hB)
        replace HX := hidE (HX.out.below hB)
        replace HK := hidE (HK.out.below hB)
        clear hB
        have HSM := hidE (fun (W : World) (h1 : Mk.Ents W gX 0 lX) (h2 : Mk.Ents W gM oM lX) => Mk.iTreeSame_any W aX gX 0 cX lX aM gM oM cM lX (by omega) (by omega) HAX.out HAM.out h1 h2)
        rw [sameM_reX] at HSM
        go_wp2_with fail
        refine (HSM.out _ HX.out HM.out).mono ?_
        rintro e v7 ⟨rfl, hB⟩
        replace HB := hidE (B3E HB.out hB)
        replace HA := hidE (HA.out.below hB)
        replace HU := hidE (HU.out.below hB)
        replace HX := hidE (HX.out.below hB)
        replace HK := hidE (HK.out.below hB)
        replace HM := hidE (HM.out.below hB)
        clear hB
        go_wp2
        go_ret
        exact ⟨rfl, HB.out⟩
      | false =>
        have hx0 : ¬ lX.length = 0 := by intro h; rw [h] at hx1; exact absurd hx1 (by decide)
        have htt : treeE lA = true ∧ treeE lU = true := by
          cases h : (treeE lA && treeE lU) with
          | true => rw [Bool.and_eq_true] at h; exact h
          | false => have := diff_no h; rw [HQX.out] at this; rw [this] at hx0; exact absurd rfl hx0
        have P := DfP.of htt.1 htt.2
        have hqx := HQX.out
        rw [diff_yes htt.1 htt.2] at hqx
        have HLd : Hid (∀ m ∈ lX, ∀ q ∈ lX, underI m.p q.p = true → q.d = 2) := fun m hm q hq hu => P.least_dir (hqx ▸ hm) (hqx ▸ hq) hu
        have HLs : Hid (∀ (k : Nat) (h : k < lX.length), (∀ m ∈ lX, underI m.p lX[k].p = false) → onB (lX.take k ++ lX.drop (k + 1)) lA = true → onE (lX.take k ++ lX.drop (k + 1)) lA ≠ lU) := by
          intro k h hn ho
          have hR : Mk.Rise lX := hqx ▸ P.isD.sort
          refine P.least (q := lX[k]) (by rw [hqx]; exact List.getElem_mem _) (fun m hm => hn m (hqx ▸ hm)) (fun m hm => ?_) ho
          have := rest_ne hR h m hm
          exact ⟨hqx ▸ this.1, this.2⟩
        obtain ⟨kk, hkk⟩ : ∃ kk, len2 % lX.length = kk := ⟨_, rfl⟩
        have hkl : kk < lX.length := by rw [← hkk]; exact Nat.mod_lt _ (by omega)
        have hkm : Int.tmod (len2 : Int) (lX.length : Int) = (kk : Int) := by rw [Int.tmod_eq_emod_of_nonneg (by omega), ← hkk]; rfl
        have hx2 : ¬ ((lX.length : Int) = 0) := by omega
        clear P hqx hkk htt HSX HK
        go_wp2_with fail
        go_loopw [9] (fun iv wl => ∃ i : Nat, i ≤ lX.length ∧ iv = .int .i64 i ∧ Hid (∀ m ∈ lX.take i, underI m.p lX[kk].p = false) ∧ Hid (Below w.heap.size w wl) ∧ Hid (Ents wl gA oA lA) ∧ Hid (Ents wl gU oU lU) ∧ Hid (Mk.Ents wl gX 0 lX)) (fun iv _ => lX.length - (RowKit.intOf iv).toNat)
        case atStart => exact ⟨0, Nat.zero_le _, rfl, fun m hm => absurd hm (by simp), HB, HA, HU, HX⟩
        case round =>
          clear HB HA HU HX
          obtain ⟨i, hi, rfl, HN, HB, HA, HU, HX⟩ := hrel
          obtain rfl := HAX.out (by omega)
          by_cases hil : i < lX.length
          · obtain ⟨m0, -, -⟩ := HX.out i hil
            obtain ⟨q0, -, -⟩ := HX.out kk hkl
            simp only [Nat.zero_add] at m0 q0
            have hsz := (HZX.out lX[i] (List.getElem_mem _)).1
            have hsq := (HZX.out lX[kk] (List.getElem_mem _)).1
            have HD := hidE (HLd.out lX[i] (List.getElem_mem _) lX[kk] (List.getElem_mem _))
            have HN2 : Hid (underI lX[i].p lX[kk].p = false → ∀ m ∈ lX.take (i + 1), underI m.p lX[kk].p = false) := by
              intro hu m hm
              rw [List.take_succ_eq_append_getElem hil, List.mem_append, List.mem_singleton] at hm
              rcases hm with hm | rfl
              · exact HN.out m hm
              · exact hu
            obtain ⟨mp, hmp⟩ : ∃ mp, lX[i].p = mp := ⟨_, rfl⟩
            obtain ⟨qp, hqp⟩ : ∃ qp, lX[kk].p = qp := ⟨_, rfl⟩
            rw [hmp] at m0 hsz HD HN2
            rw [hqp] at q0 hsq HD HN2
            have HQp := hidE hqp
            clear hmp hqp HN
            obtain ⟨ub, hub⟩ : ∃ ub, underI mp qp = ub := ⟨_, rfl⟩
            rw [hub] at HD HN2
            have hcu := iPathUnder_any mp qp hsz hsq
            rw [hub] at hcu
            have m0k := cell_regrown m0
            have q0k := cell_regrown q0
            have r0 := fun (d : Nat) (os : Array Obj) => Calls.regrown_of (hcu (grow (redrawn wr d) os))
            clear hub hcu
            go_wp2
            refine wp_region_quiet_below (by kernel_rfl) (by kernel_rfl) ?_
            repeat (go_big_quiet_step (first | exact r0 _ _))
            refine wpQuiet_nil ?_
            intro w4 hw'
            obtain ⟨⟨dq, osq⟩, hw''⟩ := hw'
            have hB : Below wr.heap.size wr w4 := by rw [hw'']; exact below_regrown wr dq osq
            clear hw'' m0k q0k r0 m0 q0
            replace HB := hidE (B3E HB.out hB)
            replace HA := hidE (HA.out.below hB)
            replace HU := hidE (HU.out.below hB)
            replace HX := hidE (HX.out.below hB)
            clear hB
            cases ub with
            | true =>
              obtain ⟨-, q1, -⟩ := HX.out kk hkl
              rw [HD.out rfl] at q1
              simp only [Nat.zero_add] at q1
              go_wp2
              go_ret
              exact ⟨rfl, HB.out⟩
            | false =>
              have HN3 := hidE (HN2.out rfl)
              clear HN2
              go_wp2
              go_roundw
              case rel =>
                refine ⟨i + 1, by omega, by go_num, ?_, HB, HA, HU, HX⟩
                show ∀ m ∈ lX.take (i + 1), underI m.p lX[kk].p = false
                rw [HQp.out]; exact HN3.out
              case measure => simp [RowKit.intOf]; omega
          · have hie : lX.take i = lX := List.take_of_length_le (by omega)
            rw [hie] at HN
            have HL3 := hidE (HLs.out kk hkl HN.out)
            clear HLs HLd HN
            have hz0 := HB.out.size
            have hB1 : Below wr.heap.size wr (World.alloc wr.drew (.cells #[] 36)) := ((Below.refl _ wr).drew).alloc (Nat.le_refl _) _
            have hM : Mk.OwnE (World.alloc wr.drew (.cells #[] 36)) wr.heap.size (.slice (some ⟨wr.heap.size, 0, none⟩) 0 0) [] := Mk.OwnE.made wr.drew (Nat.le_refl _)
            have hXt := ents_takeX (HX.out.below hB1) kk
            have htk : (lX.take kk).length = kk := by rw [List.length_take]; omega
            have hi1 : (kk : Int) ≤ (cX : Int) := by omega
            have hi2 : (kk : Int) + 1 ≤ (lX.length : Int) := by omega
            have hi3 : IntKind.i64.wrap ((kk : Int) + 1) = ((kk + 1 : Nat) : Int) := by rw [IntKind.wrap_i64]; omega
            have hi4 : IntKind.i64.wrap ((kk : Int) + 1) = (kk : Int) + 1 := by rw [hi3]; omega
            have hi5 : (0 : Int) ≤ (kk : Int) + 1 := by omega
            have HXX := hidE (fun (W : World) (h : Below wr.heap.size wr W) => HX.out.below h)
            have HBB := hidE (fun (W : World) (h : Below wr.heap.size wr W) => B3E HB.out h)
            have HAA2 := hidE (fun (W : World) (h : Below wr.heap.size wr W) => HA.out.below h)
            have HUU := hidE (fun (W : World) (h : Below wr.heap.size wr W) => HU.out.below h)
            go_wp2
            by_cases hce : cX ≤ kk + 1
            · have hce2 : cX - (kk + 1) = 0 := by omega
              go_region_law (first | (refine stepE_append (by rfl) _ _ (by rfl) wr.heap.size v5 ([] ++ lX.take kk) (by rfl) hown5 _ _ gX (0) (lX.drop (kk + 1)) (lX.length - (kk + 1)) (List.length_drop ..) (by rfl) (fun h => absurd h (by rw [List.length_drop]; omega)) (Mk.ents_drop (HXX.out _ (hB1.grown hgrow5 (by simp) (fun q hq => (World.ownsRow.lt hM q hq).1))) _ _ (by omega)) (by rw [List.nil_append, htk, List.length_drop]; omega) (hB1.grown hgrow5 (by simp) (fun q hq => (World.ownsRow.lt hM q hq).1)).size ?_; intro v6 w6 hown6 hgrow6) | (refine stepE_append (by rfl) _ _ (by rfl) wr.heap.size _ [] (by rfl) hM _ _ gX 0 (lX.take kk) kk htk (by rfl) (fun _ => rfl) hXt (by rw [htk]; simp; omega) hB1.size ?_; intro v5 w5 hown5 hgrow5))
              have hB5 : Below wr.heap.size wr w5 := hB1.grown hgrow5 (by simp) (fun q hq => (World.ownsRow.lt hM q hq).1)
              have hB6 : Below wr.heap.size wr w6 := hB5.grown hgrow6 hB5.size (fun q hq => (World.ownsRow.lt hown5 q hq).1)
              replace HB := hidE (HBB.out _ hB6)
              replace HA := hidE (HAA2.out _ hB6)
              replace HU := hidE (HUU.out _ hB6)
              have hown7 : Mk.OwnE w6 wr.heap.size v6 (lX.take kk ++ lX.drop (kk + 1)) := hown6
              have hrl : (lX.take kk ++ lX.drop (kk + 1)).length ≤ 64 := by rw [List.length_append, htk, List.length_drop]; omega
              have HZr : Hid (∀ e ∈ lX.take kk ++ lX.drop (kk + 1), e.p.size ≤ 16777216 ∧ e.x.size ≤ 16777216) := fun e he => HZX.out e (by
                rcases List.mem_append.1 he with he | he
                · exact List.mem_of_mem_take he
                · exact List.mem_of_mem_drop he)
              obtain ⟨r, hr⟩ : ∃ r, lX.take kk ++ lX.drop (kk + 1) = r := ⟨_, rfl⟩
              rw [hr] at hown7 hrl HZr HL3
              clear hr hown6 hown5 hgrow5 hgrow6 hB5 hB6 HBB HAA2 HUU HXX hXt hM hB1
              obtain ⟨aR, gR, cR, rfl, haR, hER, -⟩ := Mk.OwnE.ents hown7
              have HR := hidE hER
              have HAR := hidE haR
              clear hER haR hown7
              have HON := hidE (fun (W : World) (h0 : Errs2 W ae) (h1 : Mk.Ents W gR 0 r) (h2 : Ents W gA oA lA) => iLayerOn_any W aR gR 0 cR r aA gA oA cA lA ae h0 (by omega) (by omega) HZr.out HZA.out HAR.out HAA.out h1 h2)
              obtain ⟨ob, hob⟩ : ∃ ob, onB r lA = ob := ⟨_, rfl⟩
              obtain ⟨oe, hoe⟩ : ∃ oe, onE r lA = oe := ⟨_, rfl⟩
              have hol : oe.length ≤ 16 := by
                rw [← hoe]
                cases hon : onB r lA with
                | false => unfold onE; rw [hon]; exact Nat.zero_le _
                | true =>
                  obtain ⟨p1, p2, p3, p4⟩ := on_is hon
                  rw [p4]; exact p3
              rw [hob, hoe] at HON HL3
              clear hob hoe
              go_wp2_with fail
              refine (HON.out _ (HEr.out _ HB.out) HR.out HA.out).mono ?_
              rintro e w7 ⟨vo, rfl, hrow, hB⟩
              obtain ⟨aO, gO, cO, rfl, haO, hEO, -, -⟩ := hrow
              replace HB := hidE (B3E HB.out hB)
              replace HU := hidE (HU.out.below hB)
              have HO := hidE hEO
              have HAO := hidE haO
              clear hB hEO haO
              cases ob with
              | false =>
                go_wp2
                go_ret
                exact ⟨rfl, HB.out⟩
              | true =>
                have hsm : sameT oe lU = false := by
                  cases h : sameT oe lU with
                  | false => rfl
                  | true => exact absurd ((sameT_iffX _ _).1 h) (HL3.out rfl)
                have HSm := hidE (fun (W : World) (h1 : Ents W gO 0 oe) (h2 : Ents W gU oU lU) => iTreeSame_any W aO gO 0 cO oe aU gU oU cU lU (by omega) (by omega) HAO.out HAU.out h1 h2)
                rw [hsm] at HSm
                go_wp2_with fail
                refine (HSm.out _ HO.out HU.out).mono ?_
                rintro e w8 ⟨rfl, hB⟩
                replace HB := hidE (B3E HB.out hB)
                clear hB
                go_wp2
                go_ret
                exact ⟨rfl, HB.out⟩
            · have hce2 : ¬ (cX - (kk + 1) = 0) := by omega
              have hce3 : kk + 1 < cX := by omega
              have hce4 : ¬ (cX = kk + 1) := by omega
              go_region_law (first | (refine stepE_append (by rfl) _ _ (by rfl) wr.heap.size v5 ([] ++ lX.take kk) (by rfl) hown5 _ _ gX (0 + (kk + 1) * 3) (lX.drop (kk + 1)) (lX.length - (kk + 1)) (List.length_drop ..) (by rfl) (fun _ => rfl) (Mk.ents_drop (HXX.out _ (hB1.grown hgrow5 (by simp) (fun q hq => (World.ownsRow.lt hM q hq).1))) _ _ (by omega)) (by rw [List.nil_append, htk, List.length_drop]; omega) (hB1.grown hgrow5 (by simp) (fun q hq => (World.ownsRow.lt hM q hq).1)).size ?_; intro v6 w6 hown6 hgrow6) | (refine stepE_append (by rfl) _ _ (by rfl) wr.heap.size v5 ([] ++ lX.take kk) (by rfl) hown5 _ _ gX ((kk + 1) * 3) (lX.drop (kk + 1)) (lX.length - (kk + 1)) (List.length_drop ..) (by rfl) (fun _ => rfl) (Mk.ents_drop (HXX.out _ (hB1.grown hgrow5 (by simp) (fun q hq => (World.ownsRow.lt hM q hq).1))) _ _ (by omega)) (by rw [List.nil_append, htk, List.length_drop]; omega) (hB1.grown hgrow5 (by simp) (fun q hq => (World.ownsRow.lt hM q hq).1)).size ?_; intro v6 w6 hown6 hgrow6) | (refine stepE_append (by rfl) _ _ (by rfl) wr.heap.size v5 ([] ++ lX.take kk) (by rfl) hown5 _ _ gX ((kk + 1) * 3) (lX.drop (kk + 1)) (lX.length - (kk + 1)) (List.length_drop ..) (by rfl) (fun _ => if_neg hce4) (Mk.ents_drop (HXX.out _ (hB1.grown hgrow5 (by simp) (fun q hq => (World.ownsRow.lt hM q hq).1))) _ _ (by omega)) (by rw [List.nil_append, htk, List.length_drop]; omega) (hB1.grown hgrow5 (by simp) (fun q hq => (World.ownsRow.lt hM q hq).1)).size ?_; intro v6 w6 hown6 hgrow6) | (refine stepE_append (by rfl) _ _ (by rfl) wr.heap.size _ [] (by rfl) hM _ _ gX 0 (lX.take kk) kk htk (by rfl) (fun _ => rfl) hXt (by rw [htk]; simp; omega) hB1.size ?_; intro v5 w5 hown5 hgrow5))
              have hB5 : Below wr.heap.size wr w5 := hB1.grown hgrow5 (by simp) (fun q hq => (World.ownsRow.lt hM q hq).1)
              have hB6 : Below wr.heap.size wr w6 := hB5.grown hgrow6 hB5.size (fun q hq => (World.ownsRow.lt hown5 q hq).1)
              replace HB := hidE (HBB.out _ hB6)
              replace HA := hidE (HAA2.out _ hB6)
              replace HU := hidE (HUU.out _ hB6)
              have hown7 : Mk.OwnE w6 wr.heap.size v6 (lX.take kk ++ lX.drop (kk + 1)) := hown6
              have hrl : (lX.take kk ++ lX.drop (kk + 1)).length ≤ 64 := by rw [List.length_append, htk, List.length_drop]; omega
              have HZr : Hid (∀ e ∈ lX.take kk ++ lX.drop (kk + 1), e.p.size ≤ 16777216 ∧ e.x.size ≤ 16777216) := fun e he => HZX.out e (by
                rcases List.mem_append.1 he with he | he
                · exact List.mem_of_mem_take he
                · exact List.mem_of_mem_drop he)
              obtain ⟨r, hr⟩ : ∃ r, lX.take kk ++ lX.drop (kk + 1) = r := ⟨_, rfl⟩
              rw [hr] at hown7 hrl HZr HL3
              clear hr hown6 hown5 hgrow5 hgrow6 hB5 hB6 HBB HAA2 HUU HXX hXt hM hB1
              obtain ⟨aR, gR, cR, rfl, haR, hER, -⟩ := Mk.OwnE.ents hown7
              have HR := hidE hER
              have HAR := hidE haR
              clear hER haR hown7
              have HON := hidE (fun (W : World) (h0 : Errs2 W ae) (h1 : Mk.Ents W gR 0 r) (h2 : Ents W gA oA lA) => iLayerOn_any W aR gR 0 cR r aA gA oA cA lA ae h0 (by omega) (by omega) HZr.out HZA.out HAR.out HAA.out h1 h2)
              obtain ⟨ob, hob⟩ : ∃ ob, onB r lA = ob := ⟨_, rfl⟩
              obtain ⟨oe, hoe⟩ : ∃ oe, onE r lA = oe := ⟨_, rfl⟩
              have hol : oe.length ≤ 16 := by
                rw [← hoe]
                cases hon : onB r lA with
                | false => unfold onE; rw [hon]; exact Nat.zero_le _
                | true =>
                  obtain ⟨p1, p2, p3, p4⟩ := on_is hon
                  rw [p4]; exact p3
              rw [hob, hoe] at HON HL3
              clear hob hoe
              go_wp2_with fail
              refine (HON.out _ (HEr.out _ HB.out) HR.out HA.out).mono ?_
              rintro e w7 ⟨vo, rfl, hrow, hB⟩
              obtain ⟨aO, gO, cO, rfl, haO, hEO, -, -⟩ := hrow
              replace HB := hidE (B3E HB.out hB)
              replace HU := hidE (HU.out.below hB)
              have HO := hidE hEO
              have HAO := hidE haO
              clear hB hEO haO
              cases ob with
              | false =>
                go_wp2
                go_ret
                exact ⟨rfl, HB.out⟩
              | true =>
                have hsm : sameT oe lU = false := by
                  cases h : sameT oe lU with
                  | false => rfl
                  | true => exact absurd ((sameT_iffX _ _).1 h) (HL3.out rfl)
                have HSm := hidE (fun (W : World) (h1 : Ents W gO 0 oe) (h2 : Ents W gU oU lU) => iTreeSame_any W aO gO 0 cO oe aU gU oU cU lU (by omega) (by omega) HAO.out HAU.out h1 h2)
                rw [hsm] at HSm
                go_wp2_with fail
                refine (HSm.out _ HO.out HU.out).mono ?_
                rintro e w8 ⟨rfl, hB⟩
                replace HB := hidE (B3E HB.out hB)
                clear hB
                go_wp2
                go_ret
                exact ⟨rfl, HB.out⟩
    · have hn : (1048576 : Int) < len2 := by omega
      go_enter Tryz.func8, Tryz.ntmps8
      go_wp2
      go_ret
      exact ⟨rfl, Below.refl _ _⟩
  · have hn : (1048576 : Int) < len := by omega
    go_enter Tryz.func8, Tryz.ntmps8
    go_wp2
    go_ret
    exact ⟨rfl, Below.refl _ _⟩
end Go.Proofs.YtkjpmngohocmlaaGreatDoor.Ly
