/-
  The walks of the model's draws of torn texts.
-/
import Derived.Test.YtgkfhcpegdlejaaDoorHTxTorn
import Derived.Test.YtgkfhcpegdlejaaDoorHPk25
import Derived.Test.YtgkfhcpegdlejaaDoorHPk02
import Derived.Test.YtgkfhcpegdlejaaDoorHPk18
import Derived.Test.YtgkfhcpegdlejaaDoorHPk26
import Derived.Test.YtgkfhcpegdlejaaDoorHPk27
import Derived.Test.YtgkfhcpegdlejaaDoorHRdLayI
import Derived.Test.YtgkfhcpegdlejaaDoorHPk08
namespace Go.Proofs.YtgkfhcpegdlejaaDoor
open Go.RowKit Go.Lib

theorem lines_le16 : ∀ (es : List E), (∀ e ∈ es, e.p.size ≤ 16 ∧ e.x.size ≤ 16) → (linesT es).size ≤ es.length * 36
  | [], _ => by show 0 ≤ _; omega
  | e :: r, h => by
    have h1 := lines_le16 r (fun x hx => h x (List.mem_cons_of_mem _ hx))
    have h2 := h e List.mem_cons_self
    have h3 := entT_le e
    show (entT e ++ ⟨#[10]⟩ ++ linesT r).size ≤ (r.length + 1) * 36
    rw [ByteArray.size_append, ByteArray.size_append, Nat.add_mul]
    show (entT e).size + 1 + _ ≤ _
    omega
theorem tree_le16 {es : List E} {n : Nat} (h : Small n es) : (treeT es).size ≤ n * 36 := by
  unfold treeT
  split
  · have := lines_le16 es (fun e he => ⟨by have := (h.2 e he).1; omega, by have := (h.2 e he).2; omega⟩)
    have h2 := Nat.mul_le_mul_right 36 h.1
    omega
  · exact Nat.zero_le _
theorem Mk.lines_le16 : ∀ (es : List Mk.E), (∀ e ∈ es, e.p.size ≤ 16 ∧ e.x.size ≤ 16) → (Mk.linesT es).size ≤ es.length * 36
  | [], _ => by show 0 ≤ _; omega
  | e :: r, h => by
    have h1 := Mk.lines_le16 r (fun x hx => h x (List.mem_cons_of_mem _ hx))
    have h2 := h e List.mem_cons_self
    have h3 := Mk.markT_le e
    show (Mk.markT e ++ ⟨#[10]⟩ ++ Mk.linesT r).size ≤ (r.length + 1) * 36
    rw [ByteArray.size_append, ByteArray.size_append, Nat.add_mul]
    show (Mk.markT e).size + 1 + _ ≤ _
    omega
theorem op_le16 {k : Int} {p t x : ByteArray} (hp : p.size ≤ 16) (ht : t.size ≤ 16) (hx : x.size ≤ 16) : (opT ⟨k, p, t, x⟩).size ≤ 100 := by
  unfold opT
  split
  · show (opW k ++ ⟨#[32]⟩ ++ p ++ restT [t, x]).size ≤ 100
    have h1 := restT_le [t, x] 16 (fun m hm => by
      simp only [List.mem_cons, List.not_mem_nil, or_false] at hm
      rcases hm with rfl | rfl
      · exact ht
      · exact hx)
    have h5 : (opW k).size ≤ 5 := by
      unfold opW
      split
      · decide
      · split
        · decide
        · split
          · decide
          · split <;> decide
    have h6 : (⟨#[32]⟩ : ByteArray).size = 1 := rfl
    rw [ByteArray.size_append, ByteArray.size_append, ByteArray.size_append, h6]
    simp only [List.length_cons, List.length_nil] at h1
    omega
  · exact Nat.zero_le _
theorem Mk.lay_le16 {es : List Mk.E} {n : Nat} (h : Mk.Drn n es) : (Mk.layT es).size ≤ n * 36 := by
  unfold Mk.layT
  split
  · have := Mk.lines_le16 es (fun e he => ⟨Mk.okP_size (h.2 e he).1, (h.2 e he).2⟩)
    have h2 := Nat.mul_le_mul_right 36 h.1
    omega
  · exact Nat.zero_le _

set_option maxHeartbeats 1000000 in
set_option maxRecDepth 100000 in
theorem DrawTreeRead_any (w : World) (a : Option Addr) (len cap : Nat) (hl : len ≤ 1048576) (h : Cod w a len cap) :
    Calls Tryd.prog 13 #[.slice a len cap] w fun e w' => ∃ t : ByteArray, e = .returned (.string t) ∧ t.size ≤ 100000 ∧ Below w.heap.size w w' := by
  have HC := hidR h
  clear h
  go_enter Tryd.func13, Tryd.ntmps13
  go_wp2_with fail
  refine (l10Open_any _ a len cap hl HC.out).mono ?_
  rintro e w1 ⟨rfl, hR1, hB1⟩
  have HR1 := hidR hR1
  have HB1 := hidR hB1
  have hr := hR1.lt
  clear hR1 hB1 HC
  go_wp2_with fail
  refine (l2Tree_any _ w.heap.size 0 (by omega) HR1.out).mono ?_
  rintro e w2 ⟨v2, es2, q2, rfl, ht2, ho2, hq2, hR2, hK2⟩
  have HR2 := hidR hR2
  have HB2 := hidR (HB1.out.trans (hK2.below (Nat.le_refl _) (Nat.le_of_lt hr)))
  have hS2 : Small 16 es2 := tree_sizes ht2
  have hsz := tree_le16 hS2
  have hze : ∀ e ∈ es2, e.p.size ≤ 16777216 ∧ e.x.size ≤ 16777216 := fun e he => ⟨by have := (hS2.2 e he).1; omega, by have := (hS2.2 e he).2; omega⟩
  obtain ⟨a2, g2, cap2, rfl, ha2, hE2, hc2⟩ := ho2.ents
  have hn2 := hS2.1
  have HT := hidR (sText_any w2 a2 g2 0 cap2 es2 (by omega) hc2 hze ha2 hE2)
  obtain ⟨S, hS⟩ : ∃ S, treeT es2 = S := ⟨_, rfl⟩
  rw [hS] at HT hsz
  have hw2 : w1.heap.size ≤ w2.heap.size := hK2.2.2.2.1
  clear hR2 hK2 ht2 HR1 HB1 hze hS2 hS hE2 ho2
  go_wp2_with fail
  refine HT.out.mono ?_
  rintro e w3 ⟨rfl, hB3⟩
  have HR3 := hidR (HR2.out.below hB3)
  have HB3 := hidR (HB2.out.trans (hB3.mono (by omega)))
  have hw3 := hB3.size
  clear HT hB3 HR2
  go_wp2_with fail
  refine (l6Torn_any _ w.heap.size q2 S (by omega) (by omega) HR3.out).mono ?_
  rintro e w4 ⟨t, rfl, hts, hK4⟩
  have hB4 := HB3.out.trans (hK4.below (Nat.le_refl _) (by omega))
  clear hK4
  go_wp2
  go_ret
  exact ⟨t, rfl, by omega, hB4⟩

set_option maxHeartbeats 1000000 in
set_option maxRecDepth 100000 in
theorem DrawLayerRead_any (w : World) (a : Option Addr) (len cap : Nat) (hl : len ≤ 1048576) (h : Cod w a len cap) :
    Calls Tryd.prog 21 #[.slice a len cap] w fun e w' => ∃ t : ByteArray, e = .returned (.string t) ∧ t.size ≤ 100000 ∧ Below w.heap.size w w' := by
  have HC := hidR h
  clear h
  go_enter Tryd.func21, Tryd.ntmps21
  go_wp2_with fail
  refine (l10Open_any _ a len cap hl HC.out).mono ?_
  rintro e w1 ⟨rfl, hR1, hB1⟩
  have HR1 := hidR hR1
  have HB1 := hidR hB1
  have hr := hR1.lt
  clear hR1 hB1 HC
  go_wp2_with fail
  refine (Mk.l3Layer_any _ w.heap.size 0 (by omega) HR1.out).mono ?_
  rintro e w2 ⟨v2, es2, q2, rfl, ht2, hd2, hl2, hq2, hR2, hK2⟩
  have HR2 := hidR hR2
  have HB2 := hidR (HB1.out.trans (hK2.below (Nat.le_refl _) (Nat.le_of_lt hr)))
  have hS2 := hd2.drn (Mk.lay_len ht2)
  have hsz := Mk.lay_le16 hS2
  have hze : ∀ e ∈ es2, e.p.size ≤ 16777216 ∧ e.x.size ≤ 16777216 := fun e he => ⟨by have := Mk.okP_size (hS2.2 e he).1; omega, by have := (hS2.2 e he).2; omega⟩
  obtain ⟨a2, g2, o2, cap2, rfl, ha2, hE2, hc2, -⟩ := hl2
  have hn2 := hS2.1
  have HT := hidR (Mk.sText_any w2 a2 g2 o2 cap2 es2 (by omega) hc2 hze ha2 hE2)
  obtain ⟨S, hS⟩ : ∃ S, Mk.layT es2 = S := ⟨_, rfl⟩
  rw [hS] at HT hsz
  have hw2 : w1.heap.size ≤ w2.heap.size := hK2.2.2.2.1
  clear hR2 hK2 ht2 HR1 HB1 hze hS2 hS hE2 hd2
  go_wp2_with fail
  refine HT.out.mono ?_
  rintro e w3 ⟨rfl, hB3⟩
  have HR3 := hidR (HR2.out.below hB3)
  have HB3 := hidR (HB2.out.trans (hB3.mono (by omega)))
  have hw3 := hB3.size
  clear HT hB3 HR2
  go_wp2_with fail
  refine (l6Torn_any _ w.heap.size q2 S (by omega) (by omega) HR3.out).mono ?_
  rintro e w4 ⟨t, rfl, hts, hK4⟩
  have hB4 := HB3.out.trans (hK4.below (Nat.le_refl _) (by omega))
  clear hK4
  go_wp2
  go_ret
  exact ⟨t, rfl, by omega, hB4⟩

set_option maxHeartbeats 1000000 in
set_option maxRecDepth 100000 in
theorem DrawOpRead_any (w : World) (a : Option Addr) (len cap : Nat) (hl : len ≤ 1048576) (h : Cod w a len cap) :
    Calls Tryd.prog 29 #[.slice a len cap] w fun e w' => ∃ t : ByteArray, e = .returned (.string t) ∧ t.size ≤ 100000 ∧ Below w.heap.size w w' := by
  have HC := hidR h
  clear h
  go_enter Tryd.func29, Tryd.ntmps29
  go_wp2_with fail
  refine (l10Open_any _ a len cap hl HC.out).mono ?_
  rintro e w1 ⟨rfl, hR1, hB1⟩
  have HR1 := hidR (hR1.below ((Below.refl _ w1).alloc (Nat.le_refl _) (.cells #[] 50)))
  have HB1 := hidR (hB1.alloc hB1.size (.cells #[] 50))
  have hr := hR1.lt
  clear hR1 hB1 HC
  go_wp2_with fail
  refine (l2Op_any _ w.heap.size 0 _ w1.heap.size 0 _ [] (by omega) (by simp) (fun h => absurd h (by simp)) (fun i hi => absurd hi (by simp)) (fun _ h => by simp at h) (fun h => absurd h (by simp)) HR1.out).mono ?_
  rintro e w2 ⟨k, pp, tt, xx, q2, rfl, hp, ht, hx, hq2, hR2, hK2⟩
  have HR2 := hidR hR2
  have hs1 : (w1.alloc (.cells #[] 50)).heap.size = w1.heap.size + 1 := by simp
  have HB2 := hidR (HB1.out.trans (hK2.below (Nat.le_refl _) (by omega)))
  have hw2 := hK2.2.2.2.1
  rw [hs1] at hw2
  have ht' := okS_size ht
  have hsz := op_le16 (k := k) hp ht' hx
  have HT := hidR (fun W => sOpText_any k pp tt xx W (by omega) (by omega) (by omega))
  obtain ⟨S, hS⟩ : ∃ S, opT ⟨k, pp, tt, xx⟩ = S := ⟨_, rfl⟩
  rw [hS] at HT hsz
  clear hR2 hK2 HR1 HB1 hS
  go_wp2_with fail
  refine (HT.out _).mono ?_
  rintro e w3 ⟨rfl, hB3⟩
  have HR3 := hidR (HR2.out.below hB3)
  have HB3 := hidR (HB2.out.trans (hB3.mono (by omega)))
  have hw3 := hB3.size
  clear HT hB3 HR2
  go_wp2_with fail
  refine (l6Torn_any _ w.heap.size q2 S (by omega) (by omega) HR3.out).mono ?_
  rintro e w4 ⟨t, rfl, hts, hK4⟩
  have hB4 := HB3.out.trans (hK4.below (Nat.le_refl _) (by omega))
  clear hK4
  go_wp2
  go_ret
  exact ⟨t, rfl, by omega, hB4⟩
end Go.Proofs.YtgkfhcpegdlejaaDoor

/-
  Plain facts on layers read from their texts.
-/
namespace Go.Proofs.YtgkfhcpegdlejaaDoor.Mk
open Go.RowKit Go.Lib

theorem same1_iff (e f : E) : sameT1 e f = true ↔ e = f := by
  constructor
  · intro h
    obtain ⟨p, d, x⟩ := e
    obtain ⟨q, c, y⟩ := f
    unfold sameT1 at h
    simp only [Bool.and_eq_true, beq_iff_eq] at h
    obtain ⟨⟨h1, h2⟩, h3⟩ := h
    have e1 := lb_inj (s := p) (t := q) (by rw [Lib.toList_data, Lib.toList_data] at h1; exact h1)
    have e3 := lb_inj (s := x) (t := y) (by rw [Lib.toList_data, Lib.toList_data] at h3; exact h3)
    rw [e1, h2, e3]
  · rintro rfl
    unfold sameT1
    simp
theorem sameT_iff : ∀ (es fs : List E), sameT es fs = true ↔ es = fs
  | [], [] => ⟨fun _ => rfl, fun _ => rfl⟩
  | [], _ :: _ => ⟨fun h => (by cases h), fun h => (by cases h)⟩
  | _ :: _, [] => ⟨fun h => (by cases h), fun h => (by cases h)⟩
  | e :: r, f :: q => by
    show (sameT1 e f && sameT r q) = true ↔ _
    rw [Bool.and_eq_true, same1_iff, sameT_iff r q]
    constructor
    · rintro ⟨rfl, rfl⟩; rfl
    · intro h; injection h with h1 h2; exact ⟨h1, h2⟩
theorem sameT_self (es : List E) : sameT es es = true := (sameT_iff es es).2 rfl
theorem lay_back {es : List E} (h : layB es = true) : progLay (layT es) = some es := (prog_lay _ _).2 ⟨h, by unfold layT; rw [if_pos h, linesM_T]⟩
theorem prog_text {s : ByteArray} {es : List E} (h : progLay s = some es) : layB es = true ∧ layT es = s := by
  obtain ⟨h1, h2⟩ := (prog_lay _ _).1 h
  exact ⟨h1, by unfold layT; rw [if_pos h1, ← linesM_T, h2]⟩
theorem lay_no {es : List E} (h : layB es = false) : layT es = ⟨#[]⟩ := by unfold layT; rw [if_neg (by simp [h])]
theorem prog_small (s : ByteArray) (hs : s.size ≤ 16777216) : ((progLay s).getD []).length ≤ 32 ∧ ∀ e ∈ (progLay s).getD [], e.p.size ≤ 16777216 ∧ e.x.size ≤ 16777216 := by
  cases h : progLay s with
  | none => exact ⟨Nat.zero_le _, fun _ h => by simp at h⟩
  | some es =>
    refine ⟨lay_len (prog_text h).1, ?_⟩
    unfold progLay at h
    cases hs2 : scanL 32 (LB s) [] [] [] with
    | none => rw [hs2] at h; cases h
    | some R =>
      rw [hs2] at h
      dsimp only at h
      split at h
      · obtain rfl := Option.some.inj h
        obtain ⟨h1, _⟩ := scan_le hs2
        intro e he
        obtain ⟨ws, hw, rfl⟩ := List.mem_map.1 he
        exact ⟨Nat.le_trans (h1 ws hw 1) hs, Nat.le_trans (h1 ws hw 2) hs⟩
      · cases h
/-- Two layers' texts are one just if they are. -/
theorem text_same {s : ByteArray} {es fs : List E} (h : progLay s = some fs) (ht : layB es = true) : sameT fs es = (s.toList == (layT es).toList) := by
  by_cases he : fs = es
  · have := (prog_text h).2
    rw [he] at this
    rw [he, sameT_self, this]; simp
  · have hs : ¬ s = layT es := fun q => by
      rw [q, lay_back ht] at h
      exact he (Option.some.inj h).symm
    rw [(str_no hs).1]
    cases hb : sameT fs es with
    | false => rfl
    | true => exact absurd ((sameT_iff _ _).1 hb) he
end Go.Proofs.YtgkfhcpegdlejaaDoor.Mk
