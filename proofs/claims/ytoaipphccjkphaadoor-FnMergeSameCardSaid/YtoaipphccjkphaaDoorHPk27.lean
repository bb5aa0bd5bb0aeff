import Derived.OpenShut
import Derived.Test.YtoaipphccjkphaaDoorHPick
import Derived.Test.YtoaipphccjkphaaDoorHPk11
namespace Go.Proofs.YtoaipphccjkphaaDoor
open Go.RowKit Go.Lib
def Lst (w : World) (g m : Nat) : Prop := ∀ i, i < m → ∃ s : ByteArray, w.cell? ⟨g, i, none⟩ = some (.string s) ∧ s.size ≤ 16
theorem Lst.new (w : World) (xs : List ByteArray) (t : TypeId) (h : ∀ x ∈ xs, x.size ≤ 16) : Lst (w.alloc (.cells (xs.map Value.string).toArray t)) w.heap.size xs.length := by
 intro i hi; refine ⟨xs[i], ?_, h _ (List.getElem_mem _)⟩; rw [World.cell?_alloc_new, List.getElem?_toArray, List.getElem?_map, List.getElem?_eq_getElem hi]; rfl
theorem all_short (xs : List ByteArray) (h : xs.all (fun x => decide (x.size ≤ 16)) = true) : ∀ x ∈ xs, x.size ≤ 16 :=
 fun x hx => of_decide_eq_true (List.all_eq_true.1 h x hx)
set_option maxHeartbeats 400000 in
theorem of_any (w : World) (r p g m cap : Nat) (hm : 1 ≤ m) (hm' : m ≤ 100) (hp : p ≤ 10000) (hg : g ≠ r) (hL : Lst w g m) (h : Rd w r p) :
  Calls Tryd.prog 48 #[.pointer (some ⟨r, 0, none⟩), .slice (some ⟨g, 0, none⟩) m cap] w fun e w' => ∃ s : ByteArray, e = .returned (.string s) ∧ s.size ≤ 16 ∧ Rd w' r (p + 1) ∧ Kept r w w' := by
 have HL := hidR hL; clear hL; go_enter Tryd.func48, Tryd.ntmps48
 go_wp2_with fail
 refine (pick_any _ r p _ (by omega) (by omega) hp h).mono ?_; rintro e w1 ⟨j, rfl, j0, j1, hR, hK⟩; obtain ⟨i, rfl⟩ := Int.eq_ofNat_of_zero_le j0; obtain ⟨s, hc0, hs⟩ := HL.out i (by omega); have hc := hK.cell hg hc0; clear hc0 h; have HR := hidR hR; have HK := hidR hK; clear hR hK; go_wp2
 go_ret
 exact ⟨s, rfl, hs, HR.out, HK.out⟩
set_option maxHeartbeats 400000 in
theorem l1Path_any (w : World) (r p : Nat) (hp : p ≤ 10000) (h : Rd w r p) :
  Calls Tryd.prog 47 #[.pointer (some ⟨r, 0, none⟩)] w fun e w' => ∃ s : ByteArray, e = .returned (.string s) ∧ s.size ≤ 16 ∧ Rd w' r (p + 1) ∧ Kept r w w' := by
 have hr := h.lt; go_enter Tryd.func47, Tryd.ntmps47
 go_wp2_with fail
 have hb : Below w.heap.size w (w.alloc (.cells ([⟨#[47, 97]⟩, ⟨#[47, 98]⟩, ⟨#[47, 97, 47, 98]⟩, ⟨#[47, 97, 47, 99]⟩, ⟨#[47, 98, 47, 97]⟩, ⟨#[47, 97, 98]⟩, ⟨#[47, 97, 47, 98, 47, 99]⟩, ⟨#[47, 97, 47, 98, 47, 97]⟩, ⟨#[47, 98, 47, 98]⟩, ⟨#[47, 99]⟩].map Value.string).toArray 9)) := (Below.refl _ w).alloc (Nat.le_refl _) _; refine (of_any _ r p w.heap.size 10 10 (by omega) (by omega) hp (by omega) (Lst.new w [⟨#[47, 97]⟩, ⟨#[47, 98]⟩, ⟨#[47, 97, 47, 98]⟩, ⟨#[47, 97, 47, 99]⟩, ⟨#[47, 98, 47, 97]⟩, ⟨#[47, 97, 98]⟩, ⟨#[47, 97, 47, 98, 47, 99]⟩, ⟨#[47, 97, 47, 98, 47, 97]⟩, ⟨#[47, 98, 47, 98]⟩, ⟨#[47, 99]⟩] 9 (all_short _ (by decide))) (h.below hb)).mono ?_; rintro e w1 ⟨s, rfl, hs, hR, hK⟩; have HR := hidR hR; have HK := hidR ((Kept.of_below hb).trans hK); clear hR hK hb h; go_wp2
 go_ret
 exact ⟨s, rfl, hs, HR.out, HK.out⟩
set_option maxHeartbeats 400000 in
theorem l1Text_any (w : World) (r p : Nat) (hp : p ≤ 9000) (h : Rd w r p) :
  Calls Tryd.prog 21 #[.pointer (some ⟨r, 0, none⟩)] w fun e w' => ∃ s : ByteArray, e = .returned (.string s) ∧ s.size ≤ 16 ∧ Rd w' r (p + 2) ∧ Kept r w w' := by
 go_enter Tryd.func21, Tryd.ntmps21
 go_wp2_with fail
 refine (pick_any _ r p _ (by omega) (by omega) (by omega) h).mono ?_; rintro e w1 ⟨j, rfl, j0, j1, hR1, hK1⟩; have HR1 := hidR hR1; have HK1 := hidR hK1; have hr := hR1.lt; clear hR1 hK1 h; by_cases hj : 0 < j
 ·
  go_wp2_with fail
  refine (l1Path_any _ r (p + 1) (by omega) HR1.out).mono ?_; rintro e w2 ⟨s, rfl, hs, hR2, hK2⟩; have HR2 := hidR hR2; have HK2 := hidR (HK1.out.trans hK2); clear hR2 hK2 HR1 HK1; go_wp2
  go_ret
  exact ⟨s, rfl, hs, HR2.out, HK2.out⟩
 ·
  go_wp2_with fail
  have hb : Below w1.heap.size w1 (w1.alloc (.cells ([⟨#[47]⟩, ⟨#[]⟩, ⟨#[97]⟩, ⟨#[47, 65]⟩, ⟨#[47, 97, 47]⟩, ⟨#[47, 47, 97]⟩, ⟨#[47, 97, 98, 99, 100]⟩, ⟨#[47, 97, 47, 98, 47, 99, 47, 100]⟩, ⟨#[47, 97, 98, 99, 47, 97, 98, 99, 47, 97, 98, 99]⟩, ⟨#[47, 97, 32, 98]⟩, ⟨#[47, 97, 49]⟩].map Value.string).toArray 9)) := (Below.refl _ w1).alloc (Nat.le_refl _) _; refine (of_any _ r (p + 1) w1.heap.size 11 11 (by omega) (by omega) (by omega) (by omega) (Lst.new w1 [⟨#[47]⟩, ⟨#[]⟩, ⟨#[97]⟩, ⟨#[47, 65]⟩, ⟨#[47, 97, 47]⟩, ⟨#[47, 47, 97]⟩, ⟨#[47, 97, 98, 99, 100]⟩, ⟨#[47, 97, 47, 98, 47, 99, 47, 100]⟩, ⟨#[47, 97, 98, 99, 47, 97, 98, 99, 47, 97, 98, 99]⟩, ⟨#[47, 97, 32, 98]⟩, ⟨#[47, 97, 49]⟩] 9 (all_short _ (by decide))) (HR1.out.below hb)).mono ?_; rintro e w2 ⟨s, rfl, hs, hR2, hK2⟩; have HR2 := hidR hR2; have HK2 := hidR (HK1.out.trans ((Kept.of_below hb).trans hK2)); clear hR2 hK2 HR1 HK1 hb; go_wp2
  go_ret
  exact ⟨s, rfl, hs, HR2.out, HK2.out⟩
def Cod (w : World) (a : Option Addr) (len cap : Nat) : Prop := ∃ xb xo, (0 < len → a = some ⟨xb, xo, none⟩ ∧ xb < w.heap.size) ∧ len ≤ cap ∧ ∀ i, i < len → ∃ z : Int, w.cell? ⟨xb, xo + i, none⟩ = some (.int .u8 z) ∧ 0 ≤ z ∧ z ≤ 255
theorem Cod.below {w w' : World} {a : Option Addr} {len cap : Nat} (h : Cod w a len cap) (hb : Below w.heap.size w w') : Cod w' a len cap := by
 obtain ⟨xb, xo, ha, hlc, hz⟩ := h; refine ⟨xb, xo, fun h0 => ⟨(ha h0).1, Nat.lt_of_lt_of_le (ha h0).2 hb.size⟩, hlc, fun i hi => ?_⟩; obtain ⟨z, cz, z0, z1⟩ := hz i hi; exact ⟨z, (hb.cell (p := ⟨xb, xo + i, none⟩) (cell_ltR cz)).trans cz, z0, z1⟩
set_option maxHeartbeats 400000 in
theorem l10Open_any (w : World) (a : Option Addr) (len cap : Nat) (hl : len ≤ 1048576) (h : Cod w a len cap) :
  Calls Tryd.prog 19 #[.slice a len cap] w fun e w' => e = .returned (.pointer (some ⟨w.heap.size, 0, none⟩)) ∧ Rd w' w.heap.size 0 ∧ Below w.heap.size w w' := by
 obtain ⟨xb, xo, ha, hlc, hz⟩ := h; have HZ := hidR hz; clear hz; by_cases h2 : len ≤ 2000
 ·
  go_enter Tryd.func19, Tryd.ntmps19
  go_wp2
  go_ret
  have hB : Below w.heap.size w (w.alloc (.cells #[.slice a len cap, .int .i64 0] 76)) := (Below.refl _ w).alloc (Nat.le_refl _) _; refine ⟨rfl, ⟨a, xb, xo, len, cap, by simp, by simp, by simp, h2, ha, fun i hi => ?_⟩, hB⟩; obtain ⟨z, cz, z0, z1⟩ := HZ.out i hi; exact ⟨z, (hB.cell (p := ⟨xb, xo + i, none⟩) (ha (by omega)).2).trans cz, z0, z1⟩
 ·
  obtain ⟨rfl, hx⟩ := ha (by omega); clear ha; go_enter Tryd.func19, Tryd.ntmps19
  go_wp2
  go_ret
  have hB : Below w.heap.size w (w.alloc (.cells #[.slice (some ⟨xb, xo, none⟩) 2000 cap, .int .i64 0] 76)) := (Below.refl _ w).alloc (Nat.le_refl _) _; refine ⟨rfl, ⟨_, xb, xo, 2000, cap, by simp, by simp, by simp, Nat.le_refl _, fun _ => ⟨rfl, hx⟩, fun i hi => ?_⟩, hB⟩; obtain ⟨z, cz, z0, z1⟩ := HZ.out i (by omega); exact ⟨z, (hB.cell (p := ⟨xb, xo + i, none⟩) hx).trans cz, z0, z1⟩
def IsRow (k : IntKind) (w : World) (a : Option Addr) (len cap : Nat) (zs : List Int) : Prop :=
 (a = none ∧ len = 0 ∧ cap = 0 ∧ zs = []) ∨
 ∃ x, a = some x ∧ len ≤ cap ∧ cap ≤ maxLen ∧ zs.length = cap ∧ (∀ i, i < zs.length → w.cell? (x.add i) = some (.int k (zs.getD i 0))) ∧ ∀ n ∈ zs, (Lit.int k n).wf = true
theorem IsRow.cod {w : World} {a : Option Addr} {len cap : Nat} {zs : List Int} (h : IsRow .u8 w a len cap zs) : Cod w a len cap := by
 rcases h with ⟨rfl, rfl, rfl, _⟩ | ⟨x, rfl, hlc, _, hz, hc, hwf⟩
 ·
  exact ⟨0, 0, fun h => by omega, Nat.le_refl _, fun i hi => by omega⟩
 ·
  by_cases h0 : 0 < len
  ·
   obtain ⟨b, off, rfl, hc'⟩ := ints_at hc (by omega); refine ⟨b, off, fun _ => ⟨rfl, cell_ltR (hc' 0 (by omega))⟩, hlc, fun i hi => ⟨_, hc' i (by omega), ?_⟩⟩
   have hm : zs.getD i 0 ∈ zs := by
    rw [List.getD_eq_getElem?_getD, List.getElem?_eq_getElem (by omega)]; exact List.getElem_mem _
   have := hwf _ hm
   generalize zs.getD i 0 = n at this ⊢
   simp [Lit.wf, IntKind.min, IntKind.max, IntKind.signed, IntKind.bits] at this; exact ⟨by omega, by omega⟩
  ·
   exact ⟨0, 0, fun h => by omega, hlc, fun i hi => by omega⟩
theorem B3 {a b c : World} (h : Below a.heap.size a b) (k : Below b.heap.size b c) : Below a.heap.size a c := h.trans (k.mono h.size)
def viaB (s : ByteArray) : Bool := match s.data.toList with
 | [a, c] => a == 47 && decide (107 ≤ c.toNat ∧ c.toNat ≤ 111)
 | _ => false
def okS (s : ByteArray) : Bool := decide (s.size ≤ 16) && !viaB s
theorem okS_size {s : ByteArray} (h : okS s = true) : s.size ≤ 16 := by
 unfold okS at h; rw [Bool.and_eq_true] at h; exact of_decide_eq_true h.1
theorem okS_none : okS ⟨#[]⟩ = true := by decide +kernel
def LstP (P : ByteArray → Bool) (w : World) (g m : Nat) : Prop := ∀ i, i < m → ∃ s : ByteArray, w.cell? ⟨g, i, none⟩ = some (.string s) ∧ P s = true
theorem LstP.new (P : ByteArray → Bool) (w : World) (xs : List ByteArray) (t : TypeId) (h : xs.all P = true) : LstP P (w.alloc (.cells (xs.map Value.string).toArray t)) w.heap.size xs.length := by
 intro i hi; refine ⟨xs[i], ?_, List.all_eq_true.1 h _ (List.getElem_mem _)⟩; rw [World.cell?_alloc_new, List.getElem?_toArray, List.getElem?_map, List.getElem?_eq_getElem hi]; rfl
def LstI (P : Int → Bool) (w : World) (g m : Nat) : Prop := ∀ i, i < m → ∃ z : Int, w.cell? ⟨g, i, none⟩ = some (.int .i64 z) ∧ P z = true
theorem LstI.new (P : Int → Bool) (w : World) (xs : List Int) (t : TypeId) (h : xs.all P = true) : LstI P (w.alloc (.cells (xs.map (Value.int .i64)).toArray t)) w.heap.size xs.length := by
 intro i hi; refine ⟨xs[i], ?_, List.all_eq_true.1 h _ (List.getElem_mem _)⟩; rw [World.cell?_alloc_new, List.getElem?_toArray, List.getElem?_map, List.getElem?_eq_getElem hi]; rfl
set_option maxHeartbeats 400000 in
theorem of_P (P : ByteArray → Bool) (w : World) (r p g m cap : Nat) (hm : 1 ≤ m) (hm' : m ≤ 100) (hp : p ≤ 10000) (hg : g ≠ r) (hL : LstP P w g m) (h : Rd w r p) :
  Calls Tryd.prog 48 #[.pointer (some ⟨r, 0, none⟩), .slice (some ⟨g, 0, none⟩) m cap] w fun e w' => ∃ s : ByteArray, e = .returned (.string s) ∧ P s = true ∧ Rd w' r (p + 1) ∧ Kept r w w' := by
 have HL := hidR hL; clear hL; go_enter Tryd.func48, Tryd.ntmps48
 go_wp2_with fail
 refine (pick_any _ r p _ (by omega) (by omega) hp h).mono ?_; rintro e w1 ⟨j, rfl, j0, j1, hR, hK⟩; obtain ⟨i, rfl⟩ := Int.eq_ofNat_of_zero_le j0; obtain ⟨s, hc0, hs⟩ := HL.out i (by omega); have hc := hK.cell hg hc0; clear hc0 h; have HR := hidR hR; have HK := hidR hK; have HS := hidR hs; clear hR hK hs; go_wp2
 go_ret
 exact ⟨s, rfl, HS.out, HR.out, HK.out⟩
set_option maxHeartbeats 400000 in
theorem num_P (P : Int → Bool) (w : World) (r p g m cap : Nat) (hm : 1 ≤ m) (hm' : m ≤ 100) (hp : p ≤ 10000) (hg : g ≠ r) (hL : LstI P w g m) (h : Rd w r p) :
  Calls Tryd.prog 46 #[.pointer (some ⟨r, 0, none⟩), .slice (some ⟨g, 0, none⟩) m cap] w fun e w' => ∃ z : Int, e = .returned (.int .i64 z) ∧ P z = true ∧ Rd w' r (p + 1) ∧ Kept r w w' := by
 have HL := hidR hL; clear hL; go_enter Tryd.func46, Tryd.ntmps46
 go_wp2_with fail
 refine (pick_any _ r p _ (by omega) (by omega) hp h).mono ?_; rintro e w1 ⟨j, rfl, j0, j1, hR, hK⟩; obtain ⟨i, rfl⟩ := Int.eq_ofNat_of_zero_le j0; obtain ⟨s, hc0, hs⟩ := HL.out i (by omega); have hc := hK.cell hg hc0; clear hc0 h; have HR := hidR hR; have HK := hidR hK; have HS := hidR hs; clear hR hK hs; go_wp2
 go_ret
 exact ⟨s, rfl, HS.out, HR.out, HK.out⟩
abbrev ten : List ByteArray := [⟨#[47, 97]⟩, ⟨#[47, 98]⟩, ⟨#[47, 97, 47, 98]⟩, ⟨#[47, 97, 47, 99]⟩, ⟨#[47, 98, 47, 97]⟩, ⟨#[47, 97, 98]⟩, ⟨#[47, 97, 47, 98, 47, 99]⟩, ⟨#[47, 97, 47, 98, 47, 97]⟩, ⟨#[47, 98, 47, 98]⟩, ⟨#[47, 99]⟩]
set_option maxHeartbeats 400000 in
theorem l1Path_P (P : ByteArray → Bool) (hP : ten.all P = true) (w : World) (r p : Nat) (hp : p ≤ 10000) (h : Rd w r p) :
  Calls Tryd.prog 47 #[.pointer (some ⟨r, 0, none⟩)] w fun e w' => ∃ s : ByteArray, e = .returned (.string s) ∧ P s = true ∧ Rd w' r (p + 1) ∧ Kept r w w' := by
 have hr := h.lt; have HP := hidR hP; clear hP; go_enter Tryd.func47, Tryd.ntmps47
 go_wp2_with fail
 have hb : Below w.heap.size w (w.alloc (.cells (ten.map Value.string).toArray 9)) := (Below.refl _ w).alloc (Nat.le_refl _) _; refine (of_P P _ r p w.heap.size 10 10 (by omega) (by omega) hp (by omega) (LstP.new P w ten 9 HP.out) (h.below hb)).mono ?_; rintro e w1 ⟨s, rfl, hs, hR, hK⟩; have HR := hidR hR; have HK := hidR ((Kept.of_below hb).trans hK); have HS := hidR hs; clear hR hK hb h hs; go_wp2
 go_ret
 exact ⟨s, rfl, HS.out, HR.out, HK.out⟩
set_option maxHeartbeats 400000 in
theorem l2Some_any (w : World) (r p : Nat) (hp : p ≤ 10000) (h : Rd w r p) :
  Calls Tryd.prog 78 #[.pointer (some ⟨r, 0, none⟩)] w fun e w' => ∃ s : ByteArray, e = .returned (.string s) ∧ okS s = true ∧ Rd w' r (p + 1) ∧ Kept r w w' := by
 have hr := h.lt; go_enter Tryd.func78, Tryd.ntmps78
 go_wp2_with fail
 have hb : Below w.heap.size w (w.alloc (.cells ([⟨#[]⟩, ⟨#[120]⟩, ⟨#[121]⟩, ⟨#[49, 50]⟩, ⟨#[97, 98, 99]⟩, ⟨#[122, 57]⟩].map Value.string).toArray 9)) := (Below.refl _ w).alloc (Nat.le_refl _) _; refine (of_P okS _ r p w.heap.size 6 6 (by omega) (by omega) hp (by omega) (LstP.new okS w [⟨#[]⟩, ⟨#[120]⟩, ⟨#[121]⟩, ⟨#[49, 50]⟩, ⟨#[97, 98, 99]⟩, ⟨#[122, 57]⟩] 9 (by decide +kernel)) (h.below hb)).mono ?_; rintro e w1 ⟨s, rfl, hs, hR, hK⟩; have HR := hidR hR; have HK := hidR ((Kept.of_below hb).trans hK); have HS := hidR hs; clear hR hK hb h hs; go_wp2
 go_ret
 exact ⟨s, rfl, HS.out, HR.out, HK.out⟩
/-! ### What is kept while a box is turned -/
def Kn (n r : Nat) (w w' : World) : Prop := w'.os = w.os ∧ w'.tape = w.tape ∧ w'.output = w.output ∧ w.heap.size ≤ w'.heap.size ∧ ∀ b, b < n → b ≠ r → w'.heap[b]? = w.heap[b]?
theorem Kn.refl (n r : Nat) (w : World) : Kn n r w w := ⟨rfl, rfl, rfl, Nat.le_refl _, fun _ _ _ => rfl⟩
theorem Kn.step {n r : Nat} {a b c : World} (h : Kn n r a b) (hn : n ≤ a.heap.size) (k : Kept r b c) : Kn n r a c :=
 ⟨k.1.trans h.1, k.2.1.trans h.2.1, k.2.2.1.trans h.2.2.1, Nat.le_trans h.2.2.2.1 k.2.2.2.1, fun x hx hr => (k.2.2.2.2 x (Nat.lt_of_lt_of_le hx (Nat.le_trans hn h.2.2.2.1)) hr).trans (h.2.2.2.2 x hx hr)⟩
theorem Kn.other {n r q : Nat} {a b c : World} (h : Kn n r a b) (hn : n ≤ a.heap.size) (hq : n ≤ q) (k : Kept q b c) : Kn n r a c :=
 ⟨k.1.trans h.1, k.2.1.trans h.2.1, k.2.2.1.trans h.2.2.1, Nat.le_trans h.2.2.2.1 k.2.2.2.1, fun x hx hr => (k.2.2.2.2 x (Nat.lt_of_lt_of_le hx (Nat.le_trans hn h.2.2.2.1)) (by omega)).trans (h.2.2.2.2 x hx hr)⟩
theorem Kn.keptAt {n r : Nat} {a b : World} (h : Kn n r a b) (hn : a.heap.size = n) : Kept r a b := by subst hn; exact h
theorem Kept.setCell {r : Nat} (w : World) (o : Nat) (v : Value) : Kept r w (w.setCell ⟨r, o, none⟩ v) := by
 have := Kept.set (r := r) w o v 0; exact this
theorem Kept.alloc {r : Nat} (w : World) (o : Obj) : Kept r w (w.alloc o) := Kept.of_below ((Below.refl _ w).alloc (Nat.le_refl _) _)
theorem Rd.keep {w w' : World} {r p b : Nat} (h : Rd w r p) (k : Kept b w w') (hb : r < b) : Rd w' r p := by
 have hr := h.lt; obtain ⟨a, xb, xo, len, cap, c0, c1, f1, hl, ha, hz⟩ := h; have hh := k.2.2.2.2 r hr (by omega); refine ⟨a, xb, xo, len, cap, k.cell (by omega) c0, k.cell (by omega) c1, (World.frozen?_of_block (w := w) (a := ⟨r, 1, none⟩) hh).trans f1, hl, ha, fun i hi => ?_⟩; obtain ⟨z, cz, z0, z1⟩ := hz i hi; have := (ha (by omega)).2; exact ⟨z, k.cell (by omega) cz, z0, z1⟩
end Go.Proofs.YtoaipphccjkphaaDoor
