/-
  Texts of entries, marks, trees, layers and what is done.
-/
import Derived.Test.YtbeaegolgaopbaaDoorHPureE
namespace Go.Proofs.YtbeaegolgaopbaaDoor

/-- What stands behind the path of a line: what is empty is left out. -/
def restT : List ByteArray → ByteArray
  | [] => ⟨#[]⟩
  | m :: r => (if m.size = 0 then ⟨#[]⟩ else ⟨#[32]⟩ ++ m) ++ restT r
def lineT (a p : ByteArray) (ms : List ByteArray) : ByteArray := a ++ ⟨#[32]⟩ ++ p ++ restT ms
theorem app_nil (a : ByteArray) : a ++ (⟨#[]⟩ : ByteArray) = a := by apply ByteArray.ext; simp [ByteArray.data_append]
theorem nil_app (a : ByteArray) : (⟨#[]⟩ : ByteArray) ++ a = a := by apply ByteArray.ext; simp [ByteArray.data_append]
theorem app_assoc (a b c : ByteArray) : a ++ b ++ c = a ++ (b ++ c) := by apply ByteArray.ext; simp [ByteArray.data_append, Array.append_assoc]
theorem restT_add : ∀ (ms ns : List ByteArray), restT (ms ++ ns) = restT ms ++ restT ns
  | [], ns => by simp only [List.nil_append, restT, nil_app]
  | m :: r, ns => by simp only [List.cons_append, restT, restT_add r ns, app_assoc]
theorem restT_one (m : ByteArray) : restT [m] = if m.size = 0 then ⟨#[]⟩ else ⟨#[32]⟩ ++ m := by simp only [restT, app_nil]
theorem restT_take {ms : List ByteArray} {j : Nat} (h : j < ms.length) : restT (ms.take (j + 1)) = restT (ms.take j) ++ (if ms[j].size = 0 then ⟨#[]⟩ else ⟨#[32]⟩ ++ ms[j]) := by
  rw [List.take_succ_eq_append_getElem h, restT_add, restT_one]
theorem restT_le : ∀ (ms : List ByteArray) (k : Nat), (∀ m ∈ ms, m.size ≤ k) → (restT ms).size ≤ ms.length * (k + 1)
  | [], k, _ => by show 0 ≤ _; omega
  | m :: r, k, h => by
    have h1 := restT_le r k (fun x hx => h x (List.mem_cons_of_mem _ hx))
    have h2 := h m List.mem_cons_self
    have h3 : (if m.size = 0 then (⟨#[]⟩ : ByteArray) else ⟨#[32]⟩ ++ m).size ≤ k + 1 := by
      split
      · show 0 ≤ _; omega
      · rw [ByteArray.size_append]; show 1 + _ ≤ _; omega
    show ((if m.size = 0 then (⟨#[]⟩ : ByteArray) else ⟨#[32]⟩ ++ m) ++ restT r).size ≤ (r.length + 1) * (k + 1)
    rw [ByteArray.size_append, Nat.add_mul]
    omega

def wF : ByteArray := ⟨#[102]⟩
def wD : ByteArray := ⟨#[100]⟩
/-- The text of an entry. -/
def entT (e : E) : ByteArray := if e.d then lineT wD e.p [] else lineT wF e.p [e.x]
theorem lineT_nil (a p : ByteArray) : lineT a p [] = a ++ ⟨#[32]⟩ ++ p := by unfold lineT; rw [show restT [] = ⟨#[]⟩ from rfl, app_nil]
theorem entT_dir {e : E} (h : e.d = true) : entT e = ⟨#[100, 32]⟩ ++ e.p := by
  unfold entT; rw [if_pos h, lineT_nil]; rfl
theorem entT_bare {e : E} (h : e.d = false) (h0 : e.x.size = 0) : entT e = ⟨#[102, 32]⟩ ++ e.p := by
  unfold entT; rw [if_neg (by simp [h])]; unfold lineT; rw [restT_one, if_pos h0, app_nil]; rfl
theorem entT_file {e : E} (h : e.d = false) (h0 : ¬ e.x.size = 0) : entT e = ⟨#[102, 32]⟩ ++ e.p ++ ⟨#[32]⟩ ++ e.x := by
  unfold entT; rw [if_neg (by simp [h])]; unfold lineT; rw [restT_one, if_neg h0, ← app_assoc]; rfl
theorem entT_le (e : E) : (entT e).size ≤ e.p.size + e.x.size + 3 := by
  cases h : e.d with
  | true => rw [entT_dir h, ByteArray.size_append]; show 2 + _ ≤ _; omega
  | false =>
    by_cases h0 : e.x.size = 0
    · rw [entT_bare h h0, ByteArray.size_append]; show 2 + _ ≤ _; omega
    · rw [entT_file h h0, ByteArray.size_append, ByteArray.size_append, ByteArray.size_append]; show 2 + _ + 1 + _ ≤ _; omega
end Go.Proofs.YtbeaegolgaopbaaDoor
