/-
  Plain facts on trees: what is in a directory, and what is below it, in order.
-/
import Derived.Test.YtmfjdafkgkjidaaDoorHLook
namespace Go.Proofs.YtmfjdafkgkjidaaDoor

theorem bless_pre : ∀ (x a b : List UInt8), Op.bytesLess (x ++ a) (x ++ b) = Op.bytesLess a b
  | [], _, _ => rfl
  | y :: x, a, b => by
    show (decide (y < y) || (y == y && Op.bytesLess (x ++ a) (x ++ b))) = _
    rw [bless_pre x a b]; simp
theorem bless_ext : ∀ (a b r1 r2 : List UInt8), (∀ y ∈ b, 47 < y.toNat) → Op.bytesLess a b = true → (r1 = [] ∨ ∃ r, r1 = 47 :: r) → Op.bytesLess (a ++ r1) (b ++ r2) = true
  | [], [], _, _, _, h, _ => by cases h
  | [], y :: b, r1, r2, hb, _, hr => by
    rcases hr with rfl | ⟨r, rfl⟩
    · rfl
    · show (decide ((47 : UInt8) < y) || _) = true
      have := hb y List.mem_cons_self
      rw [decide_eq_true (by rw [UInt8.lt_iff_toNat_lt]; exact this)]; rfl
  | _ :: _, [], _, _, _, h, _ => by cases h
  | x :: a, y :: b, r1, r2, hb, h, hr => by
    have h' : (decide (x < y) || (x == y && Op.bytesLess a b)) = true := h
    show (decide (x < y) || (x == y && Op.bytesLess (a ++ r1) (b ++ r2))) = true
    rw [Bool.or_eq_true, decide_eq_true_eq, Bool.and_eq_true] at h' ⊢
    rcases h' with p | p
    · exact .inl p
    · exact .inr ⟨p.1, bless_ext a b r1 r2 (fun z hz => hb z (List.mem_cons_of_mem _ hz)) p.2 hr⟩
theorem L_join (p n : ByteArray) : L (joinI p n) = L (stemS p) ++ 47 :: L n := by
  unfold joinI
  rw [L_app, L_app, List.append_assoc]; rfl
theorem name_high {n : ByteArray} (h : nameB n = true) : ∀ y ∈ L n, 47 < y.toNat := by
  intro y hy
  unfold nameB at h
  rw [Bool.and_eq_true, List.all_eq_true] at h
  have := h.2 y hy
  unfold low at this
  have := (of_decide_eq_true this).1; omega
theorem less_join {p n m : ByteArray} : less (joinI p n) (joinI p m) ↔ less n m := by
  rw [less_L, less_L, L_join, L_join, bless_pre, show (47 :: L n) = [47] ++ L n from rfl, show (47 :: L m) = [47] ++ L m from rfl, bless_pre]
theorem join_ok {p n : ByteArray} (hp : stemOk p = true) (hn : nameB n = true) (h : pathB (joinI p n) = true) : joinOk p n = true := by
  unfold joinOk; rw [hp, hn, h]; rfl

/-! ### What is in a directory -/
theorem kid_iff (s : ByteArray) (e : E) : kidB s e = true ↔ upS e.p = s := by
  unfold kidB; rw [beq_iff_eq]; exact ⟨toList_inj, fun h => by rw [h]⟩
theorem kids_mem {es : List E} (T : TrE es) {p : ByteArray} (hp : stemOk p = true) (n : ByteArray) : n ∈ kidsE es p ↔ nameB n = true ∧ ∃ e, lookE es (joinI p n) = some e := by
  unfold kidsE
  rw [List.mem_map]
  constructor
  · rintro ⟨e, he, rfl⟩
    obtain ⟨h1, h2⟩ := List.mem_filter.1 he
    have hu := (kid_iff p e).1 h2
    have hpe := T.path e h1
    refine ⟨(up_facts hpe).2.2.1, e, ?_⟩
    rw [← hu, up_join hpe]; exact look_self T.sort h1
  · rintro ⟨hn, e, h⟩
    obtain ⟨h1, h2⟩ := look_mem h
    have hpe := T.path e h1
    have hj := join_up (join_ok hp hn (by rw [← h2]; exact hpe))
    exact ⟨e, List.mem_filter.2 ⟨h1, (kid_iff p e).2 (by rw [h2]; exact hj.1)⟩, by rw [h2]; exact hj.2⟩
theorem kids_rise {es : List E} (T : TrE es) {p : ByteArray} : (kidsE es p).Pairwise less := by
  unfold kidsE
  rw [List.pairwise_map]
  have h1 := T.sort.filter (kidB p)
  refine h1.imp_of_mem ?_
  intro a b ha hb h
  obtain ⟨a1, a2⟩ := List.mem_filter.1 ha
  obtain ⟨b1, b2⟩ := List.mem_filter.1 hb
  have ea := up_join (T.path a a1)
  have eb := up_join (T.path b b1)
  rw [(kid_iff p a).1 a2] at ea
  rw [(kid_iff p b).1 b2] at eb
  rw [← ea, ← eb] at h
  exact less_join.1 h

/-! ### What is below a directory -/
def bel (es : List E) (p : ByteArray) : List E := es.filter (fun e => underI e.p p)
theorem bel_iff {es : List E} {p : ByteArray} {e : E} : e ∈ bel es p ↔ e ∈ es ∧ underI e.p p = true := List.mem_filter
theorem join_under {p n : ByteArray} (h : joinOk p n = true) : underI (joinI p n) p = true := by
  obtain ⟨h1, h2, h3, _⟩ := join_parts h
  refine (underI_iff _ _).2 ⟨h1, h3, ?_⟩
  exact list_pre (L_join p n)
theorem up_size {s : ByteArray} (h : pathB s = true) : (stemS (upS s)).size < s.size := (up_pre h).1
/-- Whatever is below a directory is in it, or below what is in it. -/
theorem below_kid {es : List E} (T : TrE es) {p : ByteArray} (hp : stemOk p = true) : ∀ (N : Nat) (e : E), e ∈ es → e.p.size ≤ N → underI e.p p = true → ∃ n ∈ kidsE es p, e.p = joinI p n ∨ underI e.p (joinI p n) = true
  | 0, e, he, hN, h => by have := pathB_head _ (T.path e he); omega
  | N + 1, e, he, hN, h => by
    have hpe := T.path e he
    rcases (under_up hpe).1 h with e1 | e1
    · refine ⟨nmS e.p, (kids_mem T hp _).2 ⟨(up_facts hpe).2.2.1, e, ?_⟩, .inl ?_⟩
      · rw [e1, up_join hpe]; exact look_self T.sort he
      · rw [e1, up_join hpe]
    · rcases dir_look (T.up e he) with q | ⟨f, hf, _⟩
      · obtain ⟨_, h2, _⟩ := (underI_iff _ _).1 e1
        rw [q] at h2
        have := path_not_root h2
        rw [root_root] at this; cases this
      · obtain ⟨f1, f2⟩ := look_mem hf
        have hsz := up_size hpe
        rw [stem_path (by rw [← f2]; exact T.path f f1)] at hsz
        obtain ⟨n, hn, k⟩ := below_kid T hp N f f1 (by rw [f2]; omega) (by rw [f2]; exact e1)
        refine ⟨n, hn, .inr ?_⟩
        rcases k with k | k
        · rw [← k, f2]; exact up_under hpe
        · exact under_trans (up_under hpe) (by rw [f2] at k; exact k)

theorem under_list {a b : ByteArray} (hb : pathB b = true) (h : a = b ∨ underI a b = true) : ∃ r, L a = L b ++ r ∧ (r = [] ∨ ∃ q, r = 47 :: q) := by
  rcases h with rfl | h
  · exact ⟨[], by simp, .inl rfl⟩
  · obtain ⟨_, _, k⟩ := (underI_iff _ _).1 h
    rw [stem_path hb] at k
    obtain ⟨r, hr⟩ := pre_list k
    exact ⟨_, hr, .inr ⟨r, rfl⟩⟩
/-- What is below a directory: each thing that is in it, and what is below that. -/
theorem bel_split {es : List E} (T : TrE es) {p : ByteArray} (hp : stemOk p = true) : bel es p = (kidsE es p).flatMap (fun n => (lookE es (joinI p n)).toList ++ bel es (joinI p n)) := by
  have hjoin : ∀ n ∈ kidsE es p, joinOk p n = true ∧ ∃ e, lookE es (joinI p n) = some e := fun n hn => by
    obtain ⟨h1, e, h2⟩ := (kids_mem T hp n).1 hn
    obtain ⟨m1, m2⟩ := look_mem h2
    exact ⟨join_ok hp h1 (by rw [← m2]; exact T.path e m1), e, h2⟩
  have hin : ∀ n ∈ kidsE es p, ∀ x ∈ (lookE es (joinI p n)).toList ++ bel es (joinI p n), x ∈ es ∧ (x.p = joinI p n ∨ underI x.p (joinI p n) = true) := fun n hn x hx => by
    rcases List.mem_append.1 hx with h | h
    · have := look_mem (Option.mem_toList.1 h)
      exact ⟨this.1, .inl this.2⟩
    · obtain ⟨h1, h2⟩ := bel_iff.1 h
      exact ⟨h1, .inr h2⟩
  refine rising_ext (r := fun a b => less a.p b.p) (fun a => less_irrefl a.p) (fun {_ _ _} => less_trans) _ _ (T.sort.filter _) ?_ ?_
  · rw [List.pairwise_flatMap]
    constructor
    · intro n hn
      obtain ⟨hj, e, he⟩ := hjoin n hn
      obtain ⟨_, _, hjp, _⟩ := join_parts hj
      rw [List.pairwise_append]
      refine ⟨by rw [he]; simp, T.sort.filter _, fun a ha b hb => ?_⟩
      have := look_mem (Option.mem_toList.1 ha)
      rw [this.2]
      exact order_up hjp (bel_iff.1 hb).2
    · refine (kids_rise T).imp_of_mem ?_
      intro n m hn hm hless x hx y hy
      obtain ⟨hj, _⟩ := hjoin n hn
      obtain ⟨hj', _⟩ := hjoin m hm
      obtain ⟨_, hn1, hp1, _⟩ := join_parts hj
      obtain ⟨_, hm1, hp2, _⟩ := join_parts hj'
      obtain ⟨r1, e1, k1⟩ := under_list hp1 (hin n hn x hx).2
      obtain ⟨r2, e2, k2⟩ := under_list hp2 (hin m hm y hy).2
      refine less_L.2 ?_
      rw [e1, e2, L_join, L_join, List.append_assoc, List.append_assoc, bless_pre, show (47 :: L n) = [47] ++ L n from rfl, show (47 :: L m) = [47] ++ L m from rfl, List.append_assoc, List.append_assoc, bless_pre]
      exact bless_ext _ _ _ _ (name_high hm1) (less_L.1 hless) k1
  · intro x
    rw [List.mem_flatMap]
    constructor
    · intro hx
      obtain ⟨h1, h2⟩ := bel_iff.1 hx
      obtain ⟨n, hn, k⟩ := below_kid T hp x.p.size x h1 (Nat.le_refl _) h2
      refine ⟨n, hn, List.mem_append.2 ?_⟩
      rcases k with k | k
      · left; rw [← k, look_self T.sort h1]; simp
      · right; exact bel_iff.2 ⟨h1, k⟩
    · rintro ⟨n, hn, hx⟩
      obtain ⟨h1, h2⟩ := hin n hn x hx
      obtain ⟨hj, _⟩ := hjoin n hn
      refine bel_iff.2 ⟨h1, ?_⟩
      rcases h2 with h2 | h2
      · rw [h2]; exact join_under hj
      · exact under_trans h2 (join_under hj)

theorem fmap_congr {α β : Type} {f g : α → List β} : ∀ (l : List α), (∀ a ∈ l, f a = g a) → l.flatMap f = l.flatMap g
  | [], _ => rfl
  | a :: l, h => by
    rw [List.flatMap_cons, List.flatMap_cons, h a List.mem_cons_self, fmap_congr l (fun b hb => h b (List.mem_cons_of_mem _ hb))]
/-- What is told of what is below a directory, as if that were at q. -/
def toldAt (p q : ByteArray) (e : E) : ByteArray × E := (q ++ e.p.extract (stemS p).size e.p.size, e)
def told (es : List E) (p q : ByteArray) : List (ByteArray × E) := (bel es p).map (toldAt p q)
def under1 (q n : ByteArray) : ByteArray := q ++ ⟨#[47]⟩ ++ n
theorem app_assoc' (a b c : ByteArray) : a ++ b ++ c = a ++ (b ++ c) := by
  apply L_inj; rw [L_app, L_app, L_app, L_app, List.append_assoc]
theorem join_rest (p n : ByteArray) : (joinI p n).extract (stemS p).size (joinI p n).size = ⟨#[47]⟩ ++ n := by
  unfold joinI
  rw [app_assoc']
  have := app_ext_r (stemS p) (⟨#[47]⟩ ++ n) 0
  rw [Nat.add_zero] at this
  rw [this, ext_all]
theorem told_split {es : List E} (T : TrE es) {p : ByteArray} (hp : stemOk p = true) (q : ByteArray) :
    told es p q = (kidsE es p).flatMap (fun n => ((lookE es (joinI p n)).toList.map (fun e => (under1 q n, e))) ++ told es (joinI p n) (under1 q n)) := by
  unfold told
  rw [bel_split T hp, List.map_flatMap]
  refine fmap_congr _ fun n hn => ?_
  rw [List.map_append]
  obtain ⟨hn1, e, he⟩ := (kids_mem T hp n).1 hn
  obtain ⟨m1, m2⟩ := look_mem he
  have hjp : pathB (joinI p n) = true := by rw [← m2]; exact T.path e m1
  congr 1
  · rw [he]
    simp only [Option.toList_some, List.map_cons, List.map_nil, toldAt]
    rw [m2, join_rest]
    unfold under1; rw [app_assoc']
  · refine List.map_congr_left fun x hx => ?_
    obtain ⟨x1, x2⟩ := bel_iff.1 hx
    obtain ⟨_, _, k⟩ := (underI_iff _ _).1 x2
    unfold toldAt
    refine Prod.ext ?_ rfl
    dsimp only
    rw [stem_path hjp] at k ⊢
    apply L_inj
    unfold under1
    obtain ⟨r, hr⟩ := pre_list k
    have hs : (stemS p).size = (L (stemS p)).length := (L_len _).symm
    have hj : (joinI p n).size = (L (joinI p n)).length := (L_len _).symm
    have e1 : L (x.p.extract (stemS p).size x.p.size) = (L x.p).drop (stemS p).size := by
      rw [L_ext, List.take_of_length_le]; rw [List.length_drop, L_len]; exact Nat.le_refl _
    have e2 : L (x.p.extract (joinI p n).size x.p.size) = (L x.p).drop (joinI p n).size := by
      rw [L_ext, List.take_of_length_le]; rw [List.length_drop, L_len]; exact Nat.le_refl _
    rw [L_app, L_app, L_app, L_app, e1, e2, hr, hj, List.drop_left, L_join, hs]
    rw [List.append_assoc, List.drop_left]
    simp [List.append_assoc]
    rfl
/-- All that a tree has. -/
theorem told_all {es : List E} (T : TrE es) : told es ⟨#[47]⟩ ⟨#[]⟩ = es.map (fun e => (e.p, e)) := by
  unfold told
  have : bel es ⟨#[47]⟩ = es := by
    unfold bel; rw [List.filter_eq_self]; intro e he; exact under_root (T.path e he)
  rw [this]
  refine List.map_congr_left fun e _ => ?_
  unfold toldAt
  rw [stem_root, empty_app]
  rw [show (ByteArray.mk #[]).size = 0 from rfl, ext_all]
/-- Nothing is below what is as deep as may be. -/
theorem lev_le (s : ByteArray) : levS s ≤ 3 := by
  unfold levS
  split
  · rename_i h
    unfold pathB okItems at h
    rw [Bool.and_eq_true] at h
    have := of_decide_eq_true h.2; omega
  · decide
theorem under_lev : ∀ (N : Nat) (a b : ByteArray), a.size ≤ N → underI a b = true → levS b < levS a
  | 0, a, b, hN, h => by
    obtain ⟨_, h2, _⟩ := (underI_iff _ _).1 h
    have := pathB_head _ h2; omega
  | N + 1, a, b, hN, h => by
    obtain ⟨_, h2, _⟩ := (underI_iff _ _).1 h
    have hl := (up_facts h2).2.2.2
    rcases (under_up h2).1 h with e | e
    · rw [e, hl]; omega
    · have hsz := up_size h2
      obtain ⟨_, h3, _⟩ := (underI_iff _ _).1 e
      rw [stem_path h3] at hsz
      have := under_lev N (upS a) b (by omega) e
      omega
theorem told_deep {es : List E} {p : ByteArray} (h : 3 ≤ levS p) (q : ByteArray) : told es p q = [] := by
  unfold told
  rw [List.map_eq_nil_iff]
  unfold bel
  rw [List.filter_eq_nil_iff]
  intro e _ hu
  have := under_lev _ _ _ (Nat.le_refl _) hu
  have := lev_le e.p
  omega
end Go.Proofs.YtmfjdafkgkjidaaDoor
