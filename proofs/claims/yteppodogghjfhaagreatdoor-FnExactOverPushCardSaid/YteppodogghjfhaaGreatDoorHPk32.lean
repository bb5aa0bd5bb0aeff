import Derived.Test.YteppodogghjfhaaGreatDoorHPk31
import Derived.Test.YteppodogghjfhaaGreatDoorHPk12
import Derived.Test.YteppodogghjfhaaGreatDoorHPk16
import Derived.Test.YteppodogghjfhaaGreatDoorHCollI
import Derived.Test.YteppodogghjfhaaGreatDoorHPk05
namespace Go.Proofs.YteppodogghjfhaaGreatDoor.Ly
open Go.RowKit Go.Shelf Go.Lib Go.Maps
attribute [local go_sem] Oper.semAt_some
abbrev ItemV (Lv : List E) : Type := { x : E // x ∈ Lv }
abbrev encsV {Lv : List E} (x : ItemV Lv) : Array Value := #[.agg #[.string x.1.p, .bool x.1.d, .string x.1.x]]
def KpV (vb B : Nat) (X Y : World) : Prop := KpT vb X Y ∧ KeepsFrom B X Y
theorem KpV.t {vb B : Nat} {X Y Z : World} (h : KpV vb B X Y) (k : KpV vb B Y Z) : KpV vb B X Z := ⟨h.1.t k.1, h.2.trans k.2⟩
theorem kpt_own {β : Type} {vb : Nat} {w : World} (hv : vb < w.heap.size) : OwnFrom w.heap.size (fun (_ : β) W => KpT vb w W) := fun _ X Y row h hg hr => by
 have old : ∀ k, k < w.heap.size → k < X.heap.size → Y.heap[k]? = X.heap[k]? := fun k h1 h2 => hg.block k h2 (fun e => by have := (hr k e.symm).1; omega); have hp := pts_same (vb := vb) (old vb hv (Nat.lt_of_lt_of_le hv h.walks.size)); refine ⟨⟨Nat.le_trans h.walks.size hg.size, fun k o h1 h2 => ?_⟩, fun b o h1 h2 h3 h4 => ?_, fun g q => h.var g ((hp g).1 q), fun h1 g q => Nat.lt_of_lt_of_le (h.good h1 g ((hp g).1 q)) hg.size⟩
 ·
  have h3 := h.walks.same k o h1 h2; exact (old k (Array.getElem?_eq_some_iff.1 h1).1 (Array.getElem?_eq_some_iff.1 h3).1).trans h3
 ·
  have h5 := h.cells b o h1 h2 h3 h4; exact (old b (Array.getElem?_eq_some_iff.1 h1).1 (Array.getElem?_eq_some_iff.1 h5).1).trans h5
def entsT {Lt : List (ByteArray × E)} (xs : List (ItemT Lt)) : List E := xs.map (fun y => y.1.2)
def thruL (l : List Mk.E) (xs : List E) : List E := xs.filter (fun e => !covM l e.p)
theorem thru_snoc (l : List Mk.E) {Lt : List (ByteArray × E)} (pre : List (ItemT Lt)) (x : ItemT Lt) : thruL l (entsT (pre ++ [x])) = thruL l (entsT pre) ++ (if covM l x.1.2.p = true then [] else [x.1.2]) := by
 unfold thruL entsT; rw [List.map_append, List.filter_append]
 congr 1
 cases h : covM l x.1.2.p <;> simp [h]
theorem own_below {β : Type} {B : Nat} {J : β → World → Prop} (hJ : OwnFrom B J) {s : β} {X Y : World} (h : J s X) (hb : Below X.heap.size X Y) : J s Y :=
 hJ s X Y none h ⟨hb.os, hb.tape, hb.output, hb.size, fun k hk _ => hb.block k hk⟩ (fun r e => by cases e)
theorem keepsV {X Y : World} {B : Nat} (hb : Below X.heap.size X Y) : KeepsFrom B X Y := ⟨hb.size, fun k _ _ h _ => (hb.block k (Array.getElem?_eq_some_iff.1 h).1).trans h⟩
set_option maxHeartbeats 4000000 in
set_option maxRecDepth 100000 in
theorem view_stops (l : List Mk.E) (t : List E) (A B : ByteArray → Nat) (ba NA bb NB vb : Nat) (hNA : NA ≤ 1000) (hNB : NB ≤ 1000) (hl : l.length ≤ 1000) (ht : t.length ≤ 1000) (T : Mk.TrM l) (U : TrE t)
  (bl bt : Nat) (w : World) (hbl : bl < w.heap.size) (hbt : bt < w.heap.size) (hlv : bl ≠ vb) (_htv : bt ≠ vb) (hlp : ¬ pts w vb bl) (_htp : ¬ pts w vb bt)
  (c0 : w.cell? ⟨bl, 0, none⟩ = some (.iface 207 (.agg #[]))) (c1 : w.cell? ⟨bl, 1, none⟩ = some (.map (some (A ⟨#[47]⟩))))
  (d0 : w.cell? ⟨bt, 0, none⟩ = some (.bool true)) (d1 : w.cell? ⟨bt, 1, none⟩ = some (.string ⟨#[]⟩)) (d2 : w.cell? ⟨bt, 2, none⟩ = some (.map (some (B ⟨#[47]⟩))))
  (RA : Mk.Rep w ba NA l A) (RB : Rep w bb NB t B) (hz : ∀ m ∈ l, m.x.size ≤ 16777216) (hv : vb < w.heap.size) (hG : Good vb w) :
  SeqOver Fence.wide 9 Tryz.prog 146 #[.pointer (some ⟨bt, 0, none⟩), .pointer (some ⟨bl, 0, none⟩)] (encsV (Lv := viewL l t)) (KpV vb) (fun xs => xs.map Subtype.val = viewL l t) (fun pre => pre.map Subtype.val <+: viewL l t) (t.length + l.length) w := fun L J Jx W hW hJ hJx hY h0 => by
 have e0 := (hW.cell (p := ⟨bl, 0, none⟩) hbl).trans c0; have e1 := (hW.cell (p := ⟨bl, 1, none⟩) hbl).trans c1; have f0 := (hW.cell (p := ⟨bt, 0, none⟩) hbt).trans d0; have f1 := (hW.cell (p := ⟨bt, 1, none⟩) hbt).trans d1; have f2 := (hW.cell (p := ⟨bt, 2, none⟩) hbt).trans d2; have hk := kpt_of hW hv; obtain ⟨W0, hW0⟩ : ∃ W0, W0 = W.alloc (.cells #[.func (.yield L) #[] #[]] 164) := ⟨_, rfl⟩
 have hB0 : Below W.heap.size W W0 := hW0 ▸ (Below.refl _ W).alloc (Nat.le_refl _) _; have f0' := fun o => cellOn o f0; have f1' := fun o => cellOn o f1; have f2' := fun o => cellOn o f2; refine callsIn_of_wp_marks Tryz.func146 rfl trivial ?_ rfl; simp only [Tryz.ntmps146, List.size_toArray, List.length_cons, List.length_nil, Nat.reduceAdd, Nat.reduceSub, Array.replicate_succ, Array.replicate_zero, List.push_toArray, List.append_toArray, List.nil_append, List.cons_append]
 gi_wp2_with fail
 refine ⟨trivial, (callsIn_wide.2 (all_any B _)).mono ?_⟩; rintro e w3 ⟨b, hb1, hb2, rfl, hB3, g0, g1, g2, g3⟩; simp only [World.size_alloc] at hb1; have hs3 : W.heap.size + 1 ≤ w3.heap.size := by have := hB3.size; simpa using this
 have hBW : Below W.heap.size W w3 := ((Below.refl _ W).alloc (Nat.le_refl _) _).trans (hB3.mono (by simp)); have hy3 : w3.cell? ⟨W.heap.size, 0, none⟩ = some (.func (.yield L) #[] #[]) := (hB3.cell (p := ⟨W.heap.size, 0, none⟩) (by simp)).trans (by simp); have hvW : vb < W.heap.size := Nat.lt_of_lt_of_le hv hW.size; have hv3 : vb < w3.heap.size := by omega
 have hk3 : KpT vb w w3 := hk.t (kpt_of hBW hvW); have hG3 : Good vb w3 := hk3.good hG; have hpt : ∀ g, pts w3 vb g ↔ pts w vb g := fun g => (pts_same (hBW.block vb hvW) g).trans (pts_same (hW.block vb hv) g); have hlp3 : ¬ pts w3 vb bl := fun q => hlp ((hpt _).1 q); have hyp3 : ¬ pts w3 vb W.heap.size := fun q => by have := hG _ ((hpt _).1 q); have := hW.size; omega
 have RA3 := hid (Mk.kptRep hk3 RA); have RB3 := hid (hk3.rep RB); have p0 := below_cell hBW e0; have p1 := below_cell hBW e1; have hJ3 := abides_below (B := W.heap.size) (J := J) (fun s X Y row hs hg hr => hJ s X Y row hs hg (fun r e => ⟨(hr r e).1, (hr r e).2.imp fun o h => ⟨h.1, Obj.not_cells_of_walk h.2⟩⟩)) h0 hBW; have HJ := hid (ownFrom_up hJ (show W.heap.size ≤ w3.heap.size by omega)); have HJx := hid (ownFrom_up hJx (show W.heap.size ≤ w3.heap.size by omega)); have HY := hid hY; have HBW := hid hBW; clear hJ hJx hY h0 hBW hk3 hk hB0 hW0 f0' f1' f2' e0 e1 f0 f1 f2 c0 c1 d0 d1 d2 RA RB hW hlp _htp hpt hB3 W0
 gi_wp2
 refine wpIn_rangeFunc_ownH rfl (by omega) (gf := 199) (lb := #[.pointer (some ⟨b, 0, none⟩), .pointer (some ⟨b + 1, 0, none⟩)]) rfl trivial (enters_of Tryz.func199 (by kernel_rfl) rfl)
  (below_stops _ (by omega) t B bb NB vb hNB ht U ⟨#[47]⟩ ⟨#[]⟩ (by decide) true ⟨#[]⟩ (some (B ⟨#[47]⟩)) (.inl ⟨look_dir (.inl rfl), rfl⟩) b (b + 1) w3 (by omega) (by omega) g0 g1 g2 g3 RB3.out hv3 hG3 (by decide)) KpT.t (KpT.b hv3) (Below.refl _ _) (fun _ => rfl)
  (fun (pre : List (ItemT (told t ⟨#[47]⟩ ⟨#[]⟩))) Wx => ∃ ks : List (ItemV (viewL l t)), ks.map Subtype.val = thruL l (entsT pre) ∧ J ks Wx ∧ KpT vb w3 Wx)
  (fun c (pre : List (ItemT (told t ⟨#[47]⟩ ⟨#[]⟩))) Wx => ∃ ks : List (ItemV (viewL l t)), (c = .ret ∧ ks.map Subtype.val = thruL l (entsT pre)) ∧ Jx ks Wx)
  (fun _ X Y row ⟨ks, h1, h2, h3⟩ hg hr => ⟨ks, h1, HJ.out ks X Y row h2 hg hr, kpt_own (β := Unit) hv3 () X Y row h3 hg hr⟩)
  (fun _ _ X Y row ⟨ks, h1, h2⟩ hg hr => ⟨ks, h1, HJx.out ks X Y row h2 hg hr⟩)
  ⟨[], rfl, hJ3, kpt_of (Below.refl _ _) hv3⟩
  (fun x ac Wx => ∃ Bx, w3.heap.size ≤ Bx ∧ (Wx.cell? ⟨Bx, 0, none⟩ = some (.bool x.1.2.d) ∧ Wx.cell? ⟨Bx, 1, none⟩ = some (.string x.1.2.x) ∧ Wx.cell? ⟨Bx, 2, none⟩ = some (.map (optV x.1.2.d (B x.1.2.p)))) ∧ ac = { tmps := #[.func (.yield L) #[] #[], .pointer (some ⟨bt, 0, none⟩), .pointer (some ⟨bl, 0, none⟩), .pointer (some ⟨W.heap.size, 0, none⟩), .string x.1.1, .pointer (some ⟨Bx, 0, none⟩), undef, undef, undef, undef, .agg #[.bool true, .string ⟨#[]⟩, .map (some (B ⟨#[47]⟩))], .func (.func 199) #[] #[.pointer (some ⟨b, 0, none⟩), .pointer (some ⟨b + 1, 0, none⟩)], .string x.1.1, .agg #[.bool x.1.2.d, .string x.1.2.x, .map (optV x.1.2.d (B x.1.2.p))], undef, undef, undef, undef, undef, undef, undef, undef, undef, undef, undef, undef, undef, undef, undef, undef, undef, undef, undef, undef, undef, undef, undef, undef, undef, undef, undef, undef, undef, undef], defers := [] })
  (fun x ac _ X Y row hs hg hr => by obtain ⟨Bx, h1, ⟨h2, h3, h4⟩, h5⟩ := hs; exact ⟨Bx, h1, ⟨cell_kept h2 hg (fun r e => (hr r e).2), cell_kept h3 hg (fun r e => (hr r e).2), cell_kept h4 hg (fun r e => (hr r e).2)⟩, h5⟩)
  ?assign ?body ?done ?stop
 case assign =>
  rintro l' pre x Wx K ⟨ks, h1, h2, h3⟩ hK; have hsz := h3.walks.size
  gi_wp2
  exact hK _ _ ((KeepsOthers.alloc _ _).from _) (kpt_of ((Below.refl _ Wx).alloc (Nat.le_refl _) _) (by omega)) ⟨ks, h1, HJ.out.alloc _ h2, h3.t (kpt_of ((Below.refl _ Wx).alloc (Nat.le_refl _) _) (by omega))⟩ ⟨Wx.heap.size, hsz, ⟨by simp, by simp, by simp⟩, by simp⟩
 case body =>
  rintro l' pre x ac Wx hl' ⟨r, hr⟩ ⟨ks, h1, h2, h3⟩ ⟨Bx, hBx, ⟨x0, x1, x2⟩, rfl⟩ hlt; obtain ⟨⟨s, e⟩, hxm⟩ := x
  obtain ⟨hse, hem⟩ : s = e.p ∧ e ∈ t := by
   have h := hxm; rw [told_all U, List.mem_map] at h; obtain ⟨e', k1, k2⟩ := h
   injection k2 with k2 k3
   subst k3; exact ⟨k2.symm, k1⟩
  subst hse; have hpe := U.path e hem; have q0 := h3.cell p0 hlv hlp3; have q1 := h3.cell p1 hlv hlp3; have qy := h3.cell hy3 (by omega) hyp3; have HC := hid (fun (W' : World) (hW' : Below Wx.heap.size Wx W') => Mk.covers_any ba NA l A T W' ((Mk.kptRep h3 RA3.out).below hW') e.p hpe (by have := path_sizeD hpe; omega)); have HK3 := hid h3; dsimp only at x0 x1 x2 ⊢; have hff : ∀ f : FuncId, Fence.wide.fn f := fun _ => trivial; have hdr : ∀ W', Below Wx.heap.size Wx W' → (W'.cell? ⟨Bx, 0, none⟩ = some (.bool e.d) ∧ W'.cell? ⟨Bx, 1, none⟩ = some (.string e.x) ∧ W'.cell? ⟨Bx, 2, none⟩ = some (.map (optV e.d (B e.p)))) ∧ W'.cell? ⟨W.heap.size, 0, none⟩ = some (.func (.yield L) #[] #[]) := fun W' h => ⟨⟨below_cell h x0, below_cell h x1, below_cell h x2⟩, below_cell h qy⟩; have HD := hid hdr; have HJ2 := hid h2; have hvx : vb < Wx.heap.size := Nat.lt_of_lt_of_le hv3 h3.walks.size; have r0 : Wx.drew.cell? ⟨bl, 0, none⟩ = some (.iface 207 (.agg #[])) := q0; have r1 : Wx.drew.cell? ⟨bl, 1, none⟩ = some (.map (some (A ⟨#[47]⟩))) := q1; clear hdr h2 h3; cases hcov : covM l e.p with
  | true =>
   gi_wp2
   gi_region_with (gi_at_call 148; refine (CallsIn.inRound l' (callsIn_wide.2 (HC.out _ (Below.refl _ Wx).drew))).mono ?_; rintro e4 w4 ⟨rfl, hB4⟩; rw [hcov]; have HB4 := hid ((Below.refl _ Wx).drew.trans hB4); clear hB4)
   all_goals gi_wp2
   all_goals exact ⟨keepsV HB4.out, kpt_of HB4.out hvx, ks, by rw [thru_snoc, if_pos hcov, List.append_nil]; exact h1, own_below HJ.out HJ2.out HB4.out, HK3.out.t (kpt_of HB4.out hvx)⟩
  | false =>
   have hmem : e ∈ viewL l t := by
    unfold viewL; exact List.mem_append_left _ (List.mem_filter.2 ⟨hem, by rw [hcov]; rfl⟩)
   have hkl : ks.length < t.length + l.length := by
    have e1 := congrArg List.length h1; rw [List.length_map] at e1
    have e2 : (thruL l (entsT pre)).length ≤ pre.length := by
     have := List.length_filter_le (fun e : E => !covM l e.p) (entsT pre); unfold entsT at this; rw [List.length_map] at this; exact this
    have e3 : (told t ⟨#[47]⟩ ⟨#[]⟩).length = t.length := by rw [told_all U, List.length_map]
    omega
   have HR : Hid (∀ W2, Below Wx.heap.size Wx W2 → YieldAt Fence.wide 5 Tryz.prog L #[.agg #[.string e.p, .bool e.d, .string e.x]] W2 fun e6 W6 => ∃ yb : Bool, e6 = .returned (.bool yb) ∧ ((yb = true ∧ J (ks ++ [⟨e, hmem⟩]) W6 ∧ KpV vb W.heap.size W2 W6) ∨ (yb = false ∧ Jx (ks ++ [⟨e, hmem⟩]) W6 ∧ KeepsFrom W.heap.size W2 W6))) := fun W2 hW2 => by
    obtain ⟨fn, tm, as', bd, hy, hR⟩ := HY.out ks ⟨e, hmem⟩ W2 (own_below HJ.out HJ2.out hW2) hkl; refine ⟨fn, tm, as', bd, hy, (roundIn_wide hR).mono ?_⟩; rintro e6 W6 (⟨rfl, k1, k2⟩ | ⟨rfl, k1, k2⟩)
    ·
     exact ⟨true, rfl, .inl ⟨rfl, k1, k2⟩⟩
    ·
     exact ⟨false, rfl, .inr ⟨rfl, k1, k2⟩⟩
   gi_wp2
   gi_region_with (first
    | (gi_at_call 148; refine (CallsIn.inRound l' (callsIn_wide.2 (HC.out _ (Below.refl _ Wx).drew))).mono ?_; rintro e4 w4 ⟨rfl, hB4⟩; rw [hcov]; have HB4 := hid ((Below.refl _ Wx).drew.trans hB4); obtain ⟨⟨z0, z1, z2⟩, z3⟩ := HD.out _ HB4.out; clear hB4)
    | (gi_at_call 85; refine (CallsIn.inRound l' (callsIn_wide.2 (ent_any _ _ _ _ _))).mono ?_; rintro e5 w5 ⟨rfl, hB5⟩; have HB5 := hid (HB4.out.trans (hB5.mono HB4.out.size)); obtain ⟨-, z5⟩ := HD.out _ HB5.out; obtain ⟨fn, tm, as', bd, hy, hR⟩ := HR.out _ HB5.out; have HRR := hid hR; clear hB5 hR)
    | (refine RoundIn.mono (roundIn_wide HRR.out) ?_; rintro e6 w6 ⟨yb, rfl, h6⟩))
   all_goals
    have hnew : (ks ++ [(⟨e, hmem⟩ : ItemV (viewL l t))]).map Subtype.val = thruL l (entsT (pre ++ [⟨(e.p, e), hxm⟩])) := by
     rw [thru_snoc, if_neg (by rw [hcov]; decide), List.map_append, h1]; rfl
    rcases h6 with ⟨rfl, k1, k2, k3⟩ | ⟨rfl, k1, k3⟩
    ·
     gi_wp2
     exact ⟨(keepsV HB5.out).trans (keeps_up k3 (by omega)), (kpt_of HB5.out hvx).t k2, _, hnew, k1, HK3.out.t ((kpt_of HB5.out hvx).t k2)⟩
    ·
     gi_wp2
     exact ⟨(keepsV HB5.out).trans (keeps_up k3 (by omega)), _, ⟨rfl, hnew⟩, k1⟩
 case done =>
  rintro D xs Wz hD hxs ⟨ks, h1, h2, h3⟩ hK; have q0 := h3.cell p0 hlv hlp3; have q1 := h3.cell p1 hlv hlp3; have qy := h3.cell hy3 (by omega) hyp3; have hzs := h3.walks.size; have hDz := (Array.getElem?_eq_some_iff.1 hK).1
  gi_wp2_with fail
  refine ⟨trivial, (callsIn_wide.2 (Mk.all_any A _)).mono ?_⟩; rintro e w5 ⟨rfl, hB5, hs5, k0, k1⟩; have hK5 : w5.heap[D]? = some (.deferred (some [])) := (hB5.block _ hDz).trans hK; have h35 : KpT vb w3 w5 := h3.t (kpt_of hB5 (by omega)); have hv5 : vb < w5.heap.size := by omega
  have hJ5 := own_below HJ.out h2 hB5; have HJ5 := hid (ownFrom_up HJ.out (show w3.heap.size ≤ w5.heap.size by omega)); have HJx5 := hid (ownFrom_up HJx.out (show w3.heap.size ≤ w5.heap.size by omega))
  have hks : ks.map Subtype.val = thruL l t := by
   rw [h1]; have e1 := congrArg (List.map Prod.snd) hxs; rw [List.map_map] at e1; have e3 : (told t ⟨#[47]⟩ ⟨#[]⟩).map Prod.snd = t := by rw [told_all U, List.map_map]; exact List.map_id'' (fun _ => rfl) t
   rw [show entsT xs = t from e1.trans e3]
  have qy5 := below_cell hB5 qy; have H35 := hid h35; clear h1 h2 h3 hK
  gi_wp2
  refine wpIn_rangeFunc_ownH rfl (by omega) (gf := 183) (lb := #[.pointer (some ⟨Wz.heap.size, 0, none⟩)]) rfl trivial (enters_of Tryz.func183 (by kernel_rfl) rfl)
   (Mk.all_stops _ (by omega) l A ba NA vb hNA hl T Wz.heap.size w5 (by omega) k0 k1 (Mk.kptRep H35.out RA3.out) hv5 (H35.out.good hG3)) KpT.t (KpT.b hv5) (Below.refl _ _) (fun _ => rfl)
   (fun (pre : List (Mk.ItemM (Mk.toldM l ⟨#[47]⟩ ⟨#[]⟩))) Wx => ∃ ks' : List (ItemV (viewL l t)), ks'.map Subtype.val = thruL l t ++ (pre.map (fun y => y.1.2)).filterMap entM ∧ J ks' Wx ∧ KpT vb w5 Wx ∧ Wx.heap[D]? = some (.deferred (some [])))
   (fun c (pre : List (Mk.ItemM (Mk.toldM l ⟨#[47]⟩ ⟨#[]⟩))) Wx => ∃ ks' : List (ItemV (viewL l t)), (c = .ret ∧ ks'.map Subtype.val = thruL l t ++ (pre.map (fun y => y.1.2)).filterMap entM) ∧ Jx ks' Wx ∧ Wx.heap[D]? = some (.deferred (some [])))
   (fun _ X Y row ⟨ks', j1, j2, j3, j4⟩ hg hr => ⟨ks', j1, HJ5.out ks' X Y row j2 hg hr, kpt_own (β := Unit) hv5 () X Y row j3 hg hr, (hg.block D (Array.getElem?_eq_some_iff.1 j4).1 (fun q => by have := (hr D q.symm).1; omega)).trans j4⟩)
   (fun _ _ X Y row ⟨ks', j1, j2, j4⟩ hg hr => ⟨ks', j1, HJx5.out ks' X Y row j2 hg hr, (hg.block D (Array.getElem?_eq_some_iff.1 j4).1 (fun q => by have := (hr D q.symm).1; omega)).trans j4⟩)
   ⟨ks, by simpa using hks, hJ5, kpt_of (Below.refl _ _) hv5, hK5⟩
   (fun x ac _ => ac = { tmps := #[.func (.yield L) #[] #[], .pointer (some ⟨bt, 0, none⟩), .pointer (some ⟨bl, 0, none⟩), .pointer (some ⟨W.heap.size, 0, none⟩), undef, undef, .string x.1.1, Mk.signV x.1.2.d x.1.2.x, undef, undef, .agg #[.bool true, .string ⟨#[]⟩, .map (some (B ⟨#[47]⟩))], .func (.func 199) #[] #[.pointer (some ⟨b, 0, none⟩), .pointer (some ⟨b + 1, 0, none⟩)], undef, undef, undef, undef, undef, undef, undef, undef, undef, undef, undef, undef, undef, undef, .agg #[.iface 207 (.agg #[]), .map (some (A ⟨#[47]⟩))], .func (.func 183) #[] #[.pointer (some ⟨Wz.heap.size, 0, none⟩)], .string x.1.1, Mk.signV x.1.2.d x.1.2.x, undef, undef, undef, undef, undef, undef, undef, undef, undef, undef, undef, undef, undef, undef], defers := [] })
   (fun _ _ _ _ _ _ hs _ _ => hs)
   ?assign2 ?body2 ?done2 ?stop2
  case assign2 =>
   rintro l' pre x Wx K hI hKK; obtain ⟨ts, us, hsg⟩ := Mk.sign_is x.1.2.d x.1.2.x; dsimp only [Mk.encsM]; rw [hsg] at hKK ⊢
   gi_wp2
   obtain ⟨ks', j1, j2, j3, j4⟩ := hI; exact hKK _ _ (KeepsFrom.refl _ _) (kpt_of (Below.refl _ _) (by have := j3.walks.size; omega)) ⟨ks', j1, j2, j3, j4⟩ (by simp)
  case body2 =>
   rintro l' pre x ac Wx hl' ⟨r, hr⟩ ⟨ks', j1, j2, j3, j4⟩ rfl hlt; obtain ⟨⟨s, m⟩, hxm⟩ := x
   obtain ⟨hse, hem⟩ : s = m.p ∧ m ∈ l := by
    have h := hxm; rw [Mk.toldM_all T, List.mem_map] at h; obtain ⟨e', k1, k2⟩ := h
    injection k2 with k2 k3
    subst k3; exact ⟨k2.symm, k1⟩
   subst hse
   have hyp5 : ¬ pts w5 vb W.heap.size := fun q => by
    rcases H35.out.var _ q with q | q
    ·
     exact hyp3 q
    ·
     omega
   have qx := j3.cell qy5 (by omega) hyp5; have hxz := j3.walks.size; have hvx : vb < Wx.heap.size := by omega
   have hDx := (Array.getElem?_eq_some_iff.1 j4).1; have hzm := hz m hem; have hff : ∀ f : FuncId, Fence.wide.fn f := fun _ => trivial
   have hkl : ks'.length < t.length + l.length := by
    have e1 := congrArg List.length j1; rw [List.length_map, List.length_append] at e1; have e2 : (thruL l t).length ≤ t.length := List.length_filter_le _ _; have e3 := List.length_filterMap_le entM (pre.map (fun y => y.1.2)); rw [List.length_map] at e3; have e4 : (Mk.toldM l ⟨#[47]⟩ ⟨#[]⟩).length = l.length := by rw [Mk.toldM_all T, List.length_map]
    omega
   have HJ2 := hid j2; have J3 := hid j3; clear j2 j3; dsimp only; rcases (by have := T.kind m hem; omega : m.d = 1 ∨ m.d = 2 ∨ m.d = 3 ∨ m.d = 4) with hk | hk | hk | hk
   ·
    have hm : ∀ W', (method 436 212 (.agg #[.string m.x]) "loop.example/pargeting/impl.shows").run Tryz.prog W' = .ok (259, .agg #[.string m.x]) W' := fun _ => by kernel_rfl
    have hent : entM m = some ⟨m.p, false, m.x⟩ := by unfold entM; rw [if_pos hk]
    have hmem : (⟨m.p, false, m.x⟩ : E) ∈ viewL l t := by unfold viewL; exact List.mem_append_right _ (List.mem_filterMap.2 ⟨m, hem, hent⟩)
    have HR : Hid (∀ W2, Below Wx.heap.size Wx W2 → YieldAt Fence.wide 5 Tryz.prog L #[.agg #[.string m.p, .bool false, .string m.x]] W2 fun e6 W6 => ∃ yb : Bool, e6 = .returned (.bool yb) ∧ ((yb = true ∧ J (ks' ++ [⟨⟨m.p, false, m.x⟩, hmem⟩]) W6 ∧ KpV vb W.heap.size W2 W6) ∨ (yb = false ∧ Jx (ks' ++ [⟨⟨m.p, false, m.x⟩, hmem⟩]) W6 ∧ KeepsFrom W.heap.size W2 W6))) := fun W2 hW2 => by
     obtain ⟨fn, tm, as', bd, hy, hR⟩ := HY.out ks' ⟨⟨m.p, false, m.x⟩, hmem⟩ W2 (own_below HJ5.out HJ2.out hW2) hkl; refine ⟨fn, tm, as', bd, hy, (roundIn_wide hR).mono ?_⟩; rintro e6 W6 (⟨rfl, k1, k2⟩ | ⟨rfl, k1, k2⟩)
     ·
      exact ⟨true, rfl, .inl ⟨rfl, k1, k2⟩⟩
     ·
      exact ⟨false, rfl, .inr ⟨rfl, k1, k2⟩⟩
    have hnew : (ks' ++ [(⟨⟨m.p, false, m.x⟩, hmem⟩ : ItemV (viewL l t))]).map Subtype.val = thruL l t ++ ((pre ++ [(⟨(m.p, m), hxm⟩ : Mk.ItemM (Mk.toldM l ⟨#[47]⟩ ⟨#[]⟩))]).map (fun y => y.1.2)).filterMap entM := by
     rw [List.map_append, List.map_append, List.filterMap_append, ← List.append_assoc, j1]; simp [hent]
    rw [hk, Mk.sign1]
    gi_wp2_with fail
    refine (CallsIn.inRound l' (callsIn_wide.2 (Mk.showsF_any _ hzm _))).mono ?_; rintro e4 w4 ⟨rfl, hB4⟩; obtain ⟨X, hX⟩ : ∃ X, X = w4.alloc (.cells #[.bool false, .string m.x, .map none] 116) := ⟨_, rfl⟩
    have hBX : Below Wx.heap.size Wx X := by rw [hX]; exact hB4.alloc hB4.size _
    have HDX : Hid (∀ W', Below X.heap.size X W' → (W'.cell? ⟨w4.heap.size, 0, none⟩ = some (.bool false) ∧ W'.cell? ⟨w4.heap.size, 1, none⟩ = some (.string m.x) ∧ W'.cell? ⟨w4.heap.size, 2, none⟩ = some (.map none)) ∧ W'.cell? ⟨W.heap.size, 0, none⟩ = some (.func (.yield L) #[] #[])) := fun W' h => ⟨⟨below_cell h (by rw [hX]; simp), below_cell h (by rw [hX]; simp), below_cell h (by rw [hX]; simp)⟩, below_cell h (below_cell hBX qx)⟩; have HBX := hid hBX; clear hB4 hBX
    gi_wp2
    rw [← hX]; clear hX; obtain ⟨⟨z0, z1, z2⟩, z3⟩ := HDX.out X.drew (Below.refl _ _).drew
    gi_region_with (first
     | (gi_at_call 85; refine (CallsIn.inRound l' (callsIn_wide.2 (ent_any _ _ _ _ _))).mono ?_; rintro e5 w5' ⟨rfl, hB5'⟩; have HB5 := hid (HBX.out.trans (((Below.refl _ X).drew.trans hB5').mono HBX.out.size)); obtain ⟨-, z5⟩ := HDX.out _ ((Below.refl _ X).drew.trans hB5'); obtain ⟨fn, tm, as', bd, hy, hR⟩ := HR.out _ HB5.out; have HRR := hid hR; clear hB5' hR)
     | (refine RoundIn.mono (roundIn_wide HRR.out) ?_; rintro e6 w6 ⟨yb, rfl, h6⟩))
    all_goals
     rcases h6 with ⟨rfl, k1, k2, k3⟩ | ⟨rfl, k1, k3⟩
     ·
      gi_wp2
      exact ⟨(keepsV HB5.out).trans (keeps_up k3 (by omega)), (kpt_of HB5.out hvx).t k2, _, hnew, k1, J3.out.t ((kpt_of HB5.out hvx).t k2), k3.same D _ (by omega) ((HB5.out.block _ hDx).trans j4) rfl⟩
     ·
      gi_wp2
      exact ⟨(keepsV HB5.out).trans (keeps_up k3 (by omega)), _, ⟨rfl, hnew⟩, k1, k3.same D _ (by omega) ((HB5.out.block _ hDx).trans j4) rfl⟩
   ·
    have hm : ∀ W', (method 436 207 (.agg #[]) "loop.example/pargeting/impl.shows").run Tryz.prog W' = .ok (256, .agg #[]) W' := fun _ => by kernel_rfl
    have hent : entM m = some ⟨m.p, true, ⟨#[]⟩⟩ := by unfold entM; rw [if_neg (by omega), if_pos (by omega)]
    have hmem : (⟨m.p, true, ⟨#[]⟩⟩ : E) ∈ viewL l t := by unfold viewL; exact List.mem_append_right _ (List.mem_filterMap.2 ⟨m, hem, hent⟩)
    have HR : Hid (∀ W2, Below Wx.heap.size Wx W2 → YieldAt Fence.wide 5 Tryz.prog L #[.agg #[.string m.p, .bool true, .string ⟨#[]⟩]] W2 fun e6 W6 => ∃ yb : Bool, e6 = .returned (.bool yb) ∧ ((yb = true ∧ J (ks' ++ [⟨⟨m.p, true, ⟨#[]⟩⟩, hmem⟩]) W6 ∧ KpV vb W.heap.size W2 W6) ∨ (yb = false ∧ Jx (ks' ++ [⟨⟨m.p, true, ⟨#[]⟩⟩, hmem⟩]) W6 ∧ KeepsFrom W.heap.size W2 W6))) := fun W2 hW2 => by
     obtain ⟨fn, tm, as', bd, hy, hR⟩ := HY.out ks' ⟨⟨m.p, true, ⟨#[]⟩⟩, hmem⟩ W2 (own_below HJ5.out HJ2.out hW2) hkl; refine ⟨fn, tm, as', bd, hy, (roundIn_wide hR).mono ?_⟩; rintro e6 W6 (⟨rfl, k1, k2⟩ | ⟨rfl, k1, k2⟩)
     ·
      exact ⟨true, rfl, .inl ⟨rfl, k1, k2⟩⟩
     ·
      exact ⟨false, rfl, .inr ⟨rfl, k1, k2⟩⟩
    have hnew : (ks' ++ [(⟨⟨m.p, true, ⟨#[]⟩⟩, hmem⟩ : ItemV (viewL l t))]).map Subtype.val = thruL l t ++ ((pre ++ [(⟨(m.p, m), hxm⟩ : Mk.ItemM (Mk.toldM l ⟨#[47]⟩ ⟨#[]⟩))]).map (fun y => y.1.2)).filterMap entM := by
     rw [List.map_append, List.map_append, List.filterMap_append, ← List.append_assoc, j1]; simp [hent]
    rw [hk, Mk.sign2]
    gi_wp2_with fail
    refine (CallsIn.inRound l' (callsIn_wide.2 (Mk.showsD_any _))).mono ?_; rintro e4 w4 ⟨⟨aa, rfl⟩, hB4⟩; obtain ⟨X, hX⟩ : ∃ X, X = w4.alloc (.cells #[.bool true, .string ⟨#[]⟩, .map (some aa)] 116) := ⟨_, rfl⟩
    have hBX : Below Wx.heap.size Wx X := by rw [hX]; exact hB4.alloc hB4.size _
    have HDX : Hid (∀ W', Below X.heap.size X W' → (W'.cell? ⟨w4.heap.size, 0, none⟩ = some (.bool true) ∧ W'.cell? ⟨w4.heap.size, 1, none⟩ = some (.string ⟨#[]⟩) ∧ W'.cell? ⟨w4.heap.size, 2, none⟩ = some (.map (some aa))) ∧ W'.cell? ⟨W.heap.size, 0, none⟩ = some (.func (.yield L) #[] #[])) := fun W' h => ⟨⟨below_cell h (by rw [hX]; simp), below_cell h (by rw [hX]; simp), below_cell h (by rw [hX]; simp)⟩, below_cell h (below_cell hBX qx)⟩; have HBX := hid hBX; clear hB4 hBX
    gi_wp2
    rw [← hX]; clear hX; obtain ⟨⟨z0, z1, z2⟩, z3⟩ := HDX.out X.drew (Below.refl _ _).drew
    gi_region_with (first
     | (gi_at_call 85; refine (CallsIn.inRound l' (callsIn_wide.2 (ent_any _ _ _ _ _))).mono ?_; rintro e5 w5' ⟨rfl, hB5'⟩; have HB5 := hid (HBX.out.trans (((Below.refl _ X).drew.trans hB5').mono HBX.out.size)); obtain ⟨-, z5⟩ := HDX.out _ ((Below.refl _ X).drew.trans hB5'); obtain ⟨fn, tm, as', bd, hy, hR⟩ := HR.out _ HB5.out; have HRR := hid hR; clear hB5' hR)
     | (refine RoundIn.mono (roundIn_wide HRR.out) ?_; rintro e6 w6 ⟨yb, rfl, h6⟩))
    all_goals
     rcases h6 with ⟨rfl, k1, k2, k3⟩ | ⟨rfl, k1, k3⟩
     ·
      gi_wp2
      exact ⟨(keepsV HB5.out).trans (keeps_up k3 (by omega)), (kpt_of HB5.out hvx).t k2, _, hnew, k1, J3.out.t ((kpt_of HB5.out hvx).t k2), k3.same D _ (by omega) ((HB5.out.block _ hDx).trans j4) rfl⟩
     ·
      gi_wp2
      exact ⟨(keepsV HB5.out).trans (keeps_up k3 (by omega)), _, ⟨rfl, hnew⟩, k1, k3.same D _ (by omega) ((HB5.out.block _ hDx).trans j4) rfl⟩
   ·
    have hm : ∀ W', (method 436 161 (.agg #[]) "loop.example/pargeting/impl.shows").run Tryz.prog W' = .ok (250, .agg #[]) W' := fun _ => by kernel_rfl
    have hent : entM m = none := by unfold entM; rw [if_neg (by omega), if_neg (by omega)]
    have hnew : ks'.map Subtype.val = thruL l t ++ ((pre ++ [(⟨(m.p, m), hxm⟩ : Mk.ItemM (Mk.toldM l ⟨#[47]⟩ ⟨#[]⟩))]).map (fun y => y.1.2)).filterMap entM := by
     rw [List.map_append, List.filterMap_append, ← List.append_assoc, ← j1]; simp [hent]
    rw [hk, Mk.sign3]
    gi_wp2_with fail
    refine (CallsIn.inRound l' (callsIn_wide.2 (Mk.showsG_any _))).mono ?_; rintro e4 w4 ⟨rfl, hB4⟩; have HBX := hid (hB4.alloc hB4.size (.cells #[.bool false, .string ⟨#[]⟩, .map none] 116)).drew; clear hB4
    gi_wp2
    gi_region_with (fail)
    all_goals gi_wp2
    all_goals exact ⟨keepsV HBX.out, kpt_of HBX.out hvx, _, hnew, own_below HJ5.out HJ2.out HBX.out, J3.out.t (kpt_of HBX.out hvx), (HBX.out.block _ hDx).trans j4⟩
   ·
    have hm : ∀ W', (method 436 247 (.agg #[]) "loop.example/pargeting/impl.shows").run Tryz.prog W' = .ok (273, .agg #[]) W' := fun _ => by kernel_rfl
    have hent : entM m = some ⟨m.p, true, ⟨#[]⟩⟩ := by unfold entM; rw [if_neg (by omega), if_pos (by omega)]
    have hmem : (⟨m.p, true, ⟨#[]⟩⟩ : E) ∈ viewL l t := by unfold viewL; exact List.mem_append_right _ (List.mem_filterMap.2 ⟨m, hem, hent⟩)
    have HR : Hid (∀ W2, Below Wx.heap.size Wx W2 → YieldAt Fence.wide 5 Tryz.prog L #[.agg #[.string m.p, .bool true, .string ⟨#[]⟩]] W2 fun e6 W6 => ∃ yb : Bool, e6 = .returned (.bool yb) ∧ ((yb = true ∧ J (ks' ++ [⟨⟨m.p, true, ⟨#[]⟩⟩, hmem⟩]) W6 ∧ KpV vb W.heap.size W2 W6) ∨ (yb = false ∧ Jx (ks' ++ [⟨⟨m.p, true, ⟨#[]⟩⟩, hmem⟩]) W6 ∧ KeepsFrom W.heap.size W2 W6))) := fun W2 hW2 => by
     obtain ⟨fn, tm, as', bd, hy, hR⟩ := HY.out ks' ⟨⟨m.p, true, ⟨#[]⟩⟩, hmem⟩ W2 (own_below HJ5.out HJ2.out hW2) hkl; refine ⟨fn, tm, as', bd, hy, (roundIn_wide hR).mono ?_⟩; rintro e6 W6 (⟨rfl, k1, k2⟩ | ⟨rfl, k1, k2⟩)
     ·
      exact ⟨true, rfl, .inl ⟨rfl, k1, k2⟩⟩
     ·
      exact ⟨false, rfl, .inr ⟨rfl, k1, k2⟩⟩
    have hnew : (ks' ++ [(⟨⟨m.p, true, ⟨#[]⟩⟩, hmem⟩ : ItemV (viewL l t))]).map Subtype.val = thruL l t ++ ((pre ++ [(⟨(m.p, m), hxm⟩ : Mk.ItemM (Mk.toldM l ⟨#[47]⟩ ⟨#[]⟩))]).map (fun y => y.1.2)).filterMap entM := by
     rw [List.map_append, List.map_append, List.filterMap_append, ← List.append_assoc, j1]; simp [hent]
    rw [hk, Mk.sign4]
    gi_wp2_with fail
    refine (CallsIn.inRound l' (callsIn_wide.2 (Mk.showsB_any _))).mono ?_; rintro e4 w4 ⟨⟨aa, rfl⟩, hB4⟩; obtain ⟨X, hX⟩ : ∃ X, X = w4.alloc (.cells #[.bool true, .string ⟨#[]⟩, .map (some aa)] 116) := ⟨_, rfl⟩
    have hBX : Below Wx.heap.size Wx X := by rw [hX]; exact hB4.alloc hB4.size _
    have HDX : Hid (∀ W', Below X.heap.size X W' → (W'.cell? ⟨w4.heap.size, 0, none⟩ = some (.bool true) ∧ W'.cell? ⟨w4.heap.size, 1, none⟩ = some (.string ⟨#[]⟩) ∧ W'.cell? ⟨w4.heap.size, 2, none⟩ = some (.map (some aa))) ∧ W'.cell? ⟨W.heap.size, 0, none⟩ = some (.func (.yield L) #[] #[])) := fun W' h => ⟨⟨below_cell h (by rw [hX]; simp), below_cell h (by rw [hX]; simp), below_cell h (by rw [hX]; simp)⟩, below_cell h (below_cell hBX qx)⟩; have HBX := hid hBX; clear hB4 hBX
    gi_wp2
    rw [← hX]; clear hX; obtain ⟨⟨z0, z1, z2⟩, z3⟩ := HDX.out X.drew (Below.refl _ _).drew
    gi_region_with (first
     | (gi_at_call 85; refine (CallsIn.inRound l' (callsIn_wide.2 (ent_any _ _ _ _ _))).mono ?_; rintro e5 w5' ⟨rfl, hB5'⟩; have HB5 := hid (HBX.out.trans (((Below.refl _ X).drew.trans hB5').mono HBX.out.size)); obtain ⟨-, z5⟩ := HDX.out _ ((Below.refl _ X).drew.trans hB5'); obtain ⟨fn, tm, as', bd, hy, hR⟩ := HR.out _ HB5.out; have HRR := hid hR; clear hB5' hR)
     | (refine RoundIn.mono (roundIn_wide HRR.out) ?_; rintro e6 w6 ⟨yb, rfl, h6⟩))
    all_goals
     rcases h6 with ⟨rfl, k1, k2, k3⟩ | ⟨rfl, k1, k3⟩
     ·
      gi_wp2
      exact ⟨(keepsV HB5.out).trans (keeps_up k3 (by omega)), (kpt_of HB5.out hvx).t k2, _, hnew, k1, J3.out.t ((kpt_of HB5.out hvx).t k2), k3.same D _ (by omega) ((HB5.out.block _ hDx).trans j4) rfl⟩
     ·
      gi_wp2
      exact ⟨(keepsV HB5.out).trans (keeps_up k3 (by omega)), _, ⟨rfl, hnew⟩, k1, k3.same D _ (by omega) ((HB5.out.block _ hDx).trans j4) rfl⟩
  case done2 =>
   rintro D2 xs2 Wv hD2 hxs2 ⟨ks', j1, j2, j3, j4⟩ hK2
   gi_wp2
   have hDD : D ≠ D2 := by omega
   have hD6 : (Wv.putObj D2 (.deferred none)).heap[D]? = some (.deferred (some [])) := (World.putObj_heap_other hDD).trans j4; refine ⟨by simp, .inl ⟨_, _, rfl, run_takeDeferred hK2, ?_⟩⟩; refine ⟨by simp, .inl ⟨_, _, rfl, run_takeDeferred hD6, ?_⟩⟩; refine ⟨.tuple #[], by simp [results, Tryz.f146, go_sem], ⟨_, rfl⟩, .inl ⟨ks', ?_, HJ.out.putObj _ (HJ.out.putObj _ j2 (by omega) hK2 rfl) (by omega) hD6 rfl⟩⟩; rw [j1]; have e1 := congrArg (List.map Prod.snd) hxs2; rw [List.map_map] at e1; have e3 : (Mk.toldM l ⟨#[47]⟩ ⟨#[]⟩).map Prod.snd = l := by rw [Mk.toldM_all T, List.map_map]; exact List.map_id'' (fun _ => rfl) l
   rw [show xs2.map (fun y => y.1.2) = l from e1.trans e3]; rfl
  case stop2 =>
   rintro D2 c pre Wv hD2 hpre ⟨ks', ⟨rfl, j1⟩, j2, j4⟩ hK2
   gi_wp2
   have hDD : D ≠ D2 := by omega
   have hD6 : (Wv.putObj D2 (.deferred none)).heap[D]? = some (.deferred (some [])) := (World.putObj_heap_other hDD).trans j4; refine ⟨by simp, .inl ⟨_, _, rfl, run_takeDeferred hK2, ?_⟩⟩; refine ⟨by simp, .inl ⟨_, _, rfl, run_takeDeferred hD6, ?_⟩⟩; refine ⟨.tuple #[], by simp [results, Tryz.f146, go_sem], ⟨_, rfl⟩, .inr ⟨ks', ?_, HJx.out.putObj _ (HJx.out.putObj _ j2 (by omega) hK2 rfl) (by omega) hD6 rfl⟩⟩; rw [j1]; obtain ⟨r, hr⟩ := hpre; have e1 := congrArg (List.map Prod.snd) hr; rw [List.map_append, List.map_map] at e1; have e3 : (Mk.toldM l ⟨#[47]⟩ ⟨#[]⟩).map Prod.snd = l := by rw [Mk.toldM_all T, List.map_map]; exact List.map_id'' (fun _ => rfl) l
   have e4 : pre.map (fun y => y.1.2) <+: l := ⟨_, e1.trans e3⟩
   unfold viewL; exact (List.prefix_append_right_inj _).2 (e4.filterMap _)
 case stop =>
  rintro D c pre Wz hD hpre ⟨ks, ⟨rfl, hks⟩, hx⟩ hK
  gi_wp2
  refine ⟨by simp, .inl ⟨_, _, rfl, run_takeDeferred hK, ?_⟩⟩; refine ⟨.tuple #[], ?_, ⟨_, rfl⟩, .inr ⟨ks, ?_, HJx.out.putObj _ hx (by omega) hK rfl⟩⟩
  ·
   simp [results, Tryz.f146, go_sem]
  ·
   rw [hks]; obtain ⟨r, hr⟩ := hpre; have e1 := congrArg (List.map Prod.snd) hr; rw [List.map_append, List.map_map] at e1; have e3 : (told t ⟨#[47]⟩ ⟨#[]⟩).map Prod.snd = t := by rw [told_all U, List.map_map]; exact List.map_id'' (fun _ => rfl) t
   have e4 : entsT pre <+: t := ⟨_, e1.trans e3⟩
   unfold viewL; exact (e4.filter _).trans (List.prefix_append _ _)
end Go.Proofs.YteppodogghjfhaaGreatDoor.Ly
namespace Go.Proofs.YteppodogghjfhaaGreatDoor.Ly
open Go.RowKit Go.Shelf Go.Lib Go.Maps
attribute [local go_sem] Oper.semAt_some
theorem view_any (A B : ByteArray → Nat) (w : World) :
  Calls Tryz.prog 103 #[Mk.layV A, treeV B] w fun e w' => e = .returned (.func (.func 146) #[] #[.pointer (some ⟨w.heap.size + 1, 0, none⟩), .pointer (some ⟨w.heap.size, 0, none⟩)]) ∧
   w' = (w.alloc (.cells #[.iface 207 (.agg #[]), .map (some (A ⟨#[47]⟩))] 146)).alloc (.cells #[.bool true, .string ⟨#[]⟩, .map (some (B ⟨#[47]⟩))] 118) := by
 go_enter Tryz.func103, Tryz.ntmps103
 go_wp2
 go_ret
 exact ⟨rfl, rfl⟩
end Go.Proofs.YteppodogghjfhaaGreatDoor.Ly
