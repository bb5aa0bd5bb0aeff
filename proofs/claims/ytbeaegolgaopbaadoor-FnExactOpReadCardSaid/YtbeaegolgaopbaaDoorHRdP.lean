/-
  Texts that are scanned: lines of words.
-/
import Derived.Test.YtbeaegolgaopbaaDoorHTxP
namespace Go.Proofs.YtbeaegolgaopbaaDoor

/-- The scan, byte for byte: the word so far, the words of the line so far, the lines so far. -/
def scanL (most : Nat) : List UInt8 → List UInt8 → List (List UInt8) → List (List (List UInt8)) → Option (List (List (List UInt8)))
  | [], cur, ln, ls => if cur = [] ∧ ln = [] then some ls else none
  | c :: r, cur, ln, ls =>
    if c = 32 then (if cur = [] ∨ ln.length = 3 then none else scanL most r [] (ln ++ [cur]) ls)
    else if c = 10 then (if cur = [] ∨ ln.length = 3 ∨ ls.length = most then none else scanL most r [] [] (ls ++ [ln ++ [cur]]))
    else scanL most r (cur ++ [c]) ln ls

/-- Words with one space between. -/
def joinL : List (List UInt8) → List UInt8
  | [] => []
  | [w] => w
  | w :: v :: r => w ++ 32 :: joinL (v :: r)
/-- A word that may stand in a line. -/
def wordL (w : List UInt8) : Prop := w ≠ [] ∧ ∀ c ∈ w, c ≠ 32 ∧ c ≠ 10
def lineOk (ws : List (List UInt8)) : Prop := ws ≠ [] ∧ ws.length ≤ 3 ∧ ∀ w ∈ ws, wordL w
def linesL (ls : List (List (List UInt8))) : List UInt8 := ls.flatMap fun ws => joinL ws ++ [10]

theorem join_snoc : ∀ (ws : List (List UInt8)) (w : List UInt8), ws ≠ [] → joinL (ws ++ [w]) = joinL ws ++ 32 :: w
  | [], _, h => absurd rfl h
  | [v], w, _ => rfl
  | v :: u :: r, w, _ => by
    show v ++ 32 :: joinL (u :: r ++ [w]) = v ++ 32 :: joinL (u :: r) ++ 32 :: w
    rw [join_snoc (u :: r) w (by simp), List.append_assoc, List.cons_append]

/-- What is ahead of the scan: whole lines, the words of the line so far, the word so far. -/
def aheadL (ls : List (List (List UInt8))) (ln : List (List UInt8)) (cur : List UInt8) : List UInt8 := linesL ls ++ (ln.flatMap (· ++ [32])) ++ cur
theorem join_flat : ∀ (ln : List (List UInt8)) (cur : List UInt8), ln.flatMap (· ++ [32]) ++ cur = joinL (ln ++ [cur])
  | [], cur => rfl
  | [v], cur => by simp [joinL]
  | v :: u :: r, cur => by
    show (v ++ [32]) ++ (u :: r).flatMap (· ++ [32]) ++ cur = v ++ 32 :: joinL (u :: r ++ [cur])
    rw [List.append_assoc, join_flat (u :: r) cur]; simp

theorem scan_sound (most : Nat) : ∀ (t cur : List UInt8) (ln : List (List UInt8)) (ls R : List (List (List UInt8))), (∀ c ∈ cur, c ≠ 32 ∧ c ≠ 10) → (∀ w ∈ ln, wordL w) → ln.length ≤ 3 → (∀ x ∈ ls, lineOk x) → ls.length ≤ most →
    scanL most t cur ln ls = some R → aheadL ls ln cur ++ t = linesL R ∧ (∀ x ∈ R, lineOk x) ∧ R.length ≤ most
  | [], cur, ln, ls, R, _, _, _, h4, h5, h => by
    unfold scanL at h
    split at h
    · rename_i hh
      obtain ⟨rfl, rfl⟩ := hh
      obtain rfl := Option.some.inj h
      exact ⟨by simp [aheadL], h4, h5⟩
    · cases h
  | c :: r, cur, ln, ls, R, h1, h2, h3, h4, h5, h => by
    unfold scanL at h
    split at h
    · rename_i hc
      subst hc
      split at h
      · cases h
      · rename_i hn
        rw [not_or] at hn
        obtain ⟨hn1, hn2⟩ := hn
        obtain ⟨e1, e2, e3⟩ := scan_sound most r [] (ln ++ [cur]) ls R (fun _ hx => by simp at hx) (fun w hw => by
          rcases List.mem_append.1 hw with hw | hw
          · exact h2 w hw
          · simp at hw; subst hw; exact ⟨hn1, h1⟩) (by rw [List.length_append, List.length_singleton]; omega) h4 h5 h
        refine ⟨?_, e2, e3⟩
        rw [← e1]; simp [aheadL]
    · rename_i hc
      split at h
      · rename_i hc2
        subst hc2
        split at h
        · cases h
        · rename_i hn
          rw [not_or, not_or] at hn
          obtain ⟨hn1, hn2, hn3⟩ := hn
          obtain ⟨e1, e2, e3⟩ := scan_sound most r [] [] (ls ++ [ln ++ [cur]]) R (fun _ hx => by simp at hx) (fun w hw => by simp at hw) (by simp) (fun x hx => by
            rcases List.mem_append.1 hx with hx | hx
            · exact h4 x hx
            · simp at hx; subst hx
              refine ⟨by simp, by rw [List.length_append, List.length_singleton]; omega, fun w hw => ?_⟩
              rcases List.mem_append.1 hw with hw | hw
              · exact h2 w hw
              · simp at hw; subst hw; exact ⟨hn1, h1⟩) (by rw [List.length_append, List.length_singleton]; omega) h
          refine ⟨?_, e2, e3⟩
          rw [← e1]
          unfold aheadL
          rw [List.append_assoc (linesL ls), join_flat]
          simp [linesL]
      · rename_i hc2
        obtain ⟨e1, e2, e3⟩ := scan_sound most r (cur ++ [c]) ln ls R (fun x hx => by
          rcases List.mem_append.1 hx with hx | hx
          · exact h1 x hx
          · simp at hx; subst hx; exact ⟨hc, hc2⟩) h2 h3 h4 h5 h
        refine ⟨?_, e2, e3⟩
        rw [← e1]; simp [aheadL]

theorem scan_word (most : Nat) : ∀ (w t cur : List UInt8) (ln : List (List UInt8)) (ls : List (List (List UInt8))), (∀ c ∈ w, c ≠ 32 ∧ c ≠ 10) → scanL most (w ++ t) cur ln ls = scanL most t (cur ++ w) ln ls
  | [], t, cur, ln, ls, _ => by simp
  | c :: r, t, cur, ln, ls, h => by
    have hc := h c List.mem_cons_self
    show scanL most (c :: (r ++ t)) cur ln ls = _
    rw [scanL, if_neg hc.1, if_neg hc.2, scan_word most r t (cur ++ [c]) ln ls (fun x hx => h x (List.mem_cons_of_mem _ hx)), List.append_assoc]
    rfl
theorem scan_line (most : Nat) : ∀ (ws : List (List UInt8)) (ln : List (List UInt8)) (t : List UInt8) (ls : List (List (List UInt8))), ws ≠ [] → ln.length + ws.length ≤ 3 → (∀ w ∈ ws, wordL w) → ls.length < most →
    scanL most (joinL ws ++ 10 :: t) [] ln ls = scanL most t [] [] (ls ++ [ln ++ ws])
  | [], _, _, _, h, _, _, _ => absurd rfl h
  | [w], ln, t, ls, _, h1, h2, h3 => by
    have hw := h2 w (by simp)
    simp at h1
    show scanL most (w ++ 10 :: t) [] ln ls = _
    rw [scan_word most w _ [] ln ls hw.2, List.nil_append, scanL, if_neg (by decide), if_pos rfl, if_neg (by rw [not_or, not_or]; exact ⟨hw.1, by omega, by omega⟩)]
  | w :: v :: r, ln, t, ls, _, h1, h2, h3 => by
    have hw := h2 w (by simp)
    simp at h1
    show scanL most (w ++ 32 :: joinL (v :: r) ++ 10 :: t) [] ln ls = _
    rw [List.append_assoc, scan_word most w _ [] ln ls hw.2, List.nil_append, List.cons_append, scanL, if_pos rfl, if_neg (by rw [not_or]; exact ⟨hw.1, by omega⟩),
      scan_line most (v :: r) (ln ++ [w]) t ls (by simp) (by simp; omega) (fun x hx => h2 x (List.mem_cons_of_mem _ hx)) h3, List.append_assoc]
    rfl
theorem scan_done (most : Nat) : ∀ (R ls : List (List (List UInt8))), (∀ x ∈ R, lineOk x) → ls.length + R.length ≤ most → scanL most (linesL R) [] [] ls = some (ls ++ R)
  | [], ls, _, _ => by show scanL most [] [] [] ls = _; rw [scanL, if_pos ⟨rfl, rfl⟩, List.append_nil]
  | x :: R, ls, h, hl => by
    obtain ⟨h1, h2, h3⟩ := h x List.mem_cons_self
    simp at hl
    show scanL most (joinL x ++ [10] ++ linesL R) [] [] ls = _
    rw [List.append_assoc]
    show scanL most (joinL x ++ 10 :: linesL R) [] [] ls = _
    rw [scan_line most x [] (linesL R) ls h1 (by simpa using h2) h3 (by omega), List.nil_append, scan_done most R (ls ++ [x]) (fun y hy => h y (List.mem_cons_of_mem _ hy)) (by simp; omega), List.append_assoc]
    rfl
end Go.Proofs.YtbeaegolgaopbaaDoor
