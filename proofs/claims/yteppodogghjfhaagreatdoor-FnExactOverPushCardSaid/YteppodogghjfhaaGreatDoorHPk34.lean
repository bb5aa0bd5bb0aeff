import Derived.Shelf.GgSortFunc.InsertionK
import Derived.Test.YteppodogghjfhaaGreatDoorHPk05
import Derived.Test.YteppodogghjfhaaGreatDoorHPk20
import Derived.Test.YteppodogghjfhaaGreatDoorHPk10
namespace Go.Proofs.YteppodogghjfhaaGreatDoor
open Go.RowKit Go.Lib Go.Sort
instance : Inhabited E := ⟨noneE⟩
def cmpE (x y : E) : Int := if Op.bytesLess x.p.toList y.p.toList = true then -1 else if Op.bytesLess y.p.toList x.p.toList = true then 1 else 0
theorem cmpE_lt (x y : E) : decide (cmpE x y < 0) = Op.bytesLess x.p.toList y.p.toList := by
 unfold cmpE; cases h : Op.bytesLess x.p.toList y.p.toList with
 | true => simp
 | false =>
  rw [if_neg (by simp)]
  split <;> simp
def ltE (x y : E) : Bool := Op.bytesLess x.p.toList y.p.toList
theorem swoE : SWO ltE where
 irrefl x := bless_irrefl _
 trans x y z h1 h2 := bless_trans _ _ _ h1 h2
 ntrans x y z h1 h2 := by
  unfold ltE at *; cases h : Op.bytesLess x.p.toList z.p.toList with
  | false => rfl
  | true =>
   by_cases e1 : x.p.toList = y.p.toList
   ·
    rw [e1] at h; rw [h] at h2; cases h2
   ·
    have := bless_trans _ _ _ (less_total _ _ h1 e1) h; rw [this] at h2; cases h2
theorem sorted_rise {es : List E} {d : Array E} (hp : d.toList.Perm es) (hs : SortedIn ltE 0 d.size d) (hd : es.Pairwise (fun a b => a.p ≠ b.p)) : Rise d.toList := by
 have hd' : d.toList.Pairwise (fun a b => a.p ≠ b.p) := (hp.symm.pairwise_iff (fun h => Ne.symm h)).1 hd; refine List.pairwise_iff_getElem.2 fun i j hi hj hij => ?_; have h1 := hs i j (Nat.zero_le _) hij (by simpa using hj); have h2 := List.pairwise_iff_getElem.1 hd' i j hi hj hij; have hi' : i < d.size := by simpa using hi
 have hj' : j < d.size := by simpa using hj
 rw [getElem!_pos d j hj', getElem!_pos d i hi'] at h1; rw [Array.getElem_toList, Array.getElem_toList] at h2 ⊢; exact less_total _ _ h1 (fun e => h2 (by rw [Lib.toList_data, Lib.toList_data] at e; cases hx : d[i].p; cases hy : d[j].p; rw [hx, hy] at e; simp_all))
theorem cellsE_len (x : E) : (cellsE x).length = 3 := rfl
theorem cellsE_one (x : E) : ∀ v ∈ cellsE x, v.oneCell' = true := rowE_one'
theorem holds_of {w : World} {g : Nat} {es : List E} (h : Ents w g 0 es) (r : Room w g (es.length * 3)) : Go.Sort.HoldsK cellsE 3 w g 0 es.toArray := by
 intro j hj; rw [Go.Sort.size_flatK] at hj; have hj' : j < es.length * 3 := by simpa using hj
 have hq : j / 3 < es.length := by omega
 obtain ⟨c0, c1, c2⟩ := h (j / 3) hq; rw [Go.Sort.get_flatK _ _ _ _ hj]; have hg : es.toArray[j / 3]! = es[j / 3] := by rw [getElem!_pos es.toArray (j / 3) (by simpa using hq), List.getElem_toArray]
 rw [hg]; refine ⟨?_, by rw [Nat.zero_add]; exact (r j hj').2⟩; have hm : j % 3 = 0 ∨ j % 3 = 1 ∨ j % 3 = 2 := by omega
 rcases hm with hm | hm | hm
 ·
  rw [hm, show 0 + j = 0 + j / 3 * 3 from by omega]; exact c0
 ·
  rw [hm, show 0 + j = 0 + j / 3 * 3 + 1 from by omega]; exact c1
 ·
  rw [hm, show 0 + j = 0 + j / 3 * 3 + 2 from by omega]; exact c2
theorem ents_of {w : World} {g : Nat} {d : Array E} (h : Go.Sort.HoldsK cellsE 3 w g 0 d) : Ents w g 0 d.toList ∧ Room w g (d.toList.length * 3) := by
 refine ⟨fun i hi => ?_, fun i hi => ?_⟩
 ·
  have hi' : i < d.size := by simpa using hi
  have c0 := (h.cell hi' (c := 0) (by omega)).1; have c1 := (h.cell hi' (c := 1) (by omega)).1; have c2 := (h.cell hi' (c := 2) (by omega)).1; rw [getElem!_pos d i hi'] at c0 c1 c2; rw [Array.getElem_toList]; exact ⟨c0, c1, c2⟩
 ·
  have hi' : i < d.size * 3 := by simpa using hi
  have := h i (by rw [Go.Sort.size_flatK]; exact hi'); rw [Nat.zero_add] at this; exact ⟨⟨_, this.1⟩, this.2⟩
theorem sort_other {w : World} {g n : Nat} {d : Array E} {os : Array Obj} {b : Nat} (hb : b < w.heap.size) (hne : b ≠ g) : (Go.Proofs.sortWorldK cellsE 3 w g 0 n d os).heap[b]? = w.heap[b]? := by
 unfold Go.Proofs.sortWorldK grow Go.Sort.putRowK putRow mapBlock; show (Array.modify _ _ _ ++ os)[b]? = _
 rw [Array.getElem?_append_left (by simpa using hb), Array.getElem?_modify, if_neg (Ne.symm hne)]; rfl
theorem sort_but {w : World} {g n : Nat} {d : Array E} {os : Array Obj} : But g w (Go.Proofs.sortWorldK cellsE 3 w g 0 n d os) :=
 ⟨rfl, rfl, rfl, by unfold Go.Proofs.sortWorldK grow Go.Sort.putRowK; simp, fun b hb hne => sort_other hb hne⟩
theorem isNaN_any (a : ByteArray) (W : World) : Calls Tryz.prog 152 #[.string a] W fun e w' => e = .returned (.bool false) ∧ w' = W := by
 go_enter Tryz.func152, Tryz.ntmps152
 go_wp2
 go_ret
 exact ⟨by simp, rfl⟩
theorem compare_any (a b : ByteArray) (W : World) : Calls Tryz.prog 106 #[.string a, .string b] W fun e w' => e = .returned (.int .i64 (if Op.bytesLess a.toList b.toList = true then -1 else if Op.bytesLess b.toList a.toList = true then 1 else 0)) ∧ w' = W := by
 have h1 := fun W => isNaN_any a W; have h2 := fun W => isNaN_any b W; cases ha : Op.bytesLess a.toList b.toList with
 | true =>
  go_enter Tryz.func106, Tryz.ntmps106
  go_wp2_with fail
  refine (h1 _).mono ?_; rintro e w1 ⟨rfl, rfl⟩; go_wp2_with fail
  refine (h2 _).mono ?_; rintro e w2 ⟨rfl, rfl⟩; go_wp2
  go_ret
  exact ⟨rfl, rfl⟩
 | false =>
  cases hb : Op.bytesLess b.toList a.toList with
  | true =>
   have hn : ¬ a.toList = b.toList := fun e => by rw [e, bless_irrefl] at hb; cases hb
   have he : (a.toList == b.toList) = false := by simpa using hn
   go_enter Tryz.func106, Tryz.ntmps106
   go_wp2_with fail
   refine (h1 _).mono ?_; rintro e w1 ⟨rfl, rfl⟩; go_wp2_with fail
   refine (h2 _).mono ?_; rintro e w2 ⟨rfl, rfl⟩; go_wp2
   go_ret
   exact ⟨rfl, rfl⟩
  | false =>
   have hn : a.toList = b.toList := by
    by_cases e : a.toList = b.toList
    ·
     exact e
    ·
     have := less_total _ _ ha e; rw [this] at hb; cases hb
   have he : (a.toList == b.toList) = true := by simpa using hn
   have hi := bless_irrefl b.toList; go_enter Tryz.func106, Tryz.ntmps106
   go_wp2_with fail
   refine (h1 _).mono ?_; rintro e w1 ⟨rfl, rfl⟩; go_wp2_with fail
   refine (h2 _).mono ?_; rintro e w2 ⟨rfl, rfl⟩; go_wp2
   go_ret
   exact ⟨rfl, rfl⟩
theorem closure_any (x y : E) (W : World) : Calls Tryz.prog 105 #[.agg #[.string x.p, .bool x.d, .string x.x], .agg #[.string y.p, .bool y.d, .string y.x]] W fun e w' => e = .returned (.int .i64 (cmpE x y)) ∧ ∃ q os', w' = grow (W.drewN q) os' := by
 obtain ⟨p, d, z⟩ := x; obtain ⟨p', d', z'⟩ := y; have hcon := fun W' => compare_any p p' W'; have hc : cmpE ⟨p, d, z⟩ ⟨p', d', z'⟩ = if Op.bytesLess p.toList p'.toList = true then -1 else if Op.bytesLess p'.toList p.toList = true then 1 else 0 := rfl; obtain ⟨r, hr⟩ : ∃ r : Int, (if Op.bytesLess p.toList p'.toList = true then -1 else if Op.bytesLess p'.toList p.toList = true then 1 else 0) = r := ⟨_, rfl⟩
 rw [hr] at hc; have hcon' : ∀ W', Calls Tryz.prog 106 #[.string p, .string p'] W' fun e w' => e = .returned (.int .i64 r) ∧ w' = W' := fun W' => by have := hcon W'; rw [hr] at this; exact this
 rw [hc]; clear hc hr hcon; go_enter Tryz.func105, Tryz.ntmps105
 go_wp2_with fail
 refine (hcon' _).mono ?_; rintro e w1 ⟨rfl, rfl⟩; go_wp2
 go_ret
 exact ⟨rfl, 0, _, by rw [alloc_eq_grow, alloc_eq_grow, grow_grow]; rfl⟩
end Go.Proofs.YteppodogghjfhaaGreatDoor
