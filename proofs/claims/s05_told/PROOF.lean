import PyProof.Rows.All
import Wide.All
import OpenK.AllK
import Wide.FinOn
import Open.SpecLaws
import KE.OsGo
import KE.SortKeyHeap
import HandS.ForSpec
import HandS.Comp
import HandS.Iter
import HandS.Walk
import HandS.Dict
import HandS.SortKw
import HandS.Conv
import HandS.Zip
import HandS.Text
import PySem.Challenge.RW_everywaydesk_s05_told
set_option Elab.async false
set_option linter.all false
set_option maxRecDepth 100000
set_option maxHeartbeats 2000000
namespace KM
open Kzt1 (coords pointNo space okField)

/-- reversed Horner -/
def hor (p : Nat) (l : List Nat) : Nat := l.foldr (fun c a => a * p + c) 0

def isDir (p n v : Nat) : Bool := decide (v < p ^ n) && ((coords p n v).find? (fun x => x != 0) == some 1)

theorem directions_eq (p n : Nat) : Kzt2.directions p n = (List.range (p ^ n)).filter (isDir p n) := by
  unfold Kzt2.directions space
  apply List.filter_congr
  intro v hv
  have := List.mem_range.mp hv
  simp [isDir, this]

theorem directions_contains (p n v : Nat) : (Kzt2.directions p n).contains v = isDir p n v := by
  rw [directions_eq]
  cases h : isDir p n v with
  | true =>
    have hlt : v < p ^ n := by
      simp [isDir] at h
      exact h.1
    simp [List.contains_iff_mem, hlt, h]
  | false =>
    simp [h]

theorem coords_length (p n x : Nat) : (coords p n x).length = n := by simp [coords]
theorem coords_succ (p n x : Nat) : coords p (n + 1) x = coords p n x ++ [x / p ^ n % p] := by
  simp [coords, List.range_succ]
theorem coords_get (p n x i : Nat) (h : i < n) : (coords p n x)[i]? = some (x / p ^ i % p) := by
  simp [coords, h]

theorem sum_from (p : Nat) : ∀ (l : List Nat) (k a : Nat), (∀ c ∈ l, c < p) →
    ((l.zipIdx k).map fun y => y.1 % p * p ^ y.2).foldl (· + ·) a = a + hor p l * p ^ k
  | [], k, a, _ => by simp [hor]
  | c :: l, k, a, h => by
    have hc : c < p := h c (by simp)
    rw [List.zipIdx_cons, List.map_cons, List.foldl_cons, sum_from p l (k + 1) _ (fun d hd => h d (by simp [hd]))]
    show a + c % p * p ^ k + hor p l * p ^ (k + 1) = a + (hor p l * p + c) * p ^ k
    rw [Nat.mod_eq_of_lt hc, Nat.pow_succ, Nat.add_mul, Nat.mul_assoc (hor p l) p, Nat.mul_comm p (p ^ k)]
    omega

theorem pointNo_eq (p : Nat) (l : List Nat) (h : ∀ c ∈ l, c < p) : pointNo p l = hor p l := by
  unfold pointNo
  rw [sum_from p l 0 0 h]
  simp

/-- the numbers of the t-th point of a line -/
def lineNums (p n x v t : Nat) : List Nat := (List.range n).map fun i => (x / p ^ i % p + t * (v / p ^ i % p)) % p

theorem shifted_eq (p n x v t : Nat) (hp : 0 < p) : Kzt2.shifted p n x v t = hor p (lineNums p n x v t) := by
  have e : (((coords p n x).zip (coords p n v)).map fun y => (y.1 + t * y.2) % p) = lineNums p n x v t := by
    simp [coords, lineNums, List.zip_map', List.map_map, Function.comp_def]
  unfold Kzt2.shifted
  rw [e, pointNo_eq]
  intro c hc
  simp [lineNums] at hc
  obtain ⟨i, _, rfl⟩ := hc
  exact Nat.mod_lt _ hp

theorem lineAt_eq (p n x v : Nat) (hp : 0 < p) : Kzt2.lineAt p n x v = (List.range p).map fun t => hor p (lineNums p n x v t) := by
  unfold Kzt2.lineAt
  apply List.map_congr_left
  intro t _
  exact shifted_eq p n x v t hp

theorem ok_cases {p n : Nat} (h : okField p n = true) : (p = 2 ∨ p = 3 ∨ p = 5 ∨ p = 7) ∧ 1 ≤ n ∧ n ≤ 3 := by
  simp [okField] at h
  omega
theorem ok_pow {p n : Nat} (h : okField p n = true) : p ^ n ≤ 343 := by
  obtain ⟨a, b, c⟩ := ok_cases h
  have : n = 1 ∨ n = 2 ∨ n = 3 := by omega
  rcases a with rfl | rfl | rfl | rfl <;> rcases this with rfl | rfl | rfl <;> decide
/-- the elements of a list, walked from its end -/
theorem hor_cons (p c : Nat) (l : List Nat) : hor p (c :: l) = hor p l * p + c := rfl
theorem hor_drop (p : Nat) (l : List Nat) (i c : Nat) (h : l[l.length - 1 - i]? = some c) (hi : i < l.length) :
    hor p (l.drop (l.length - (i + 1))) = hor p (l.drop (l.length - i)) * p + c := by
  have e : l.length - (i + 1) = l.length - 1 - i := by omega
  have hlt : l.length - 1 - i < l.length := by omega
  rw [e, List.drop_eq_getElem_cons hlt, hor_cons]
  have e2 : l.length - 1 - i + 1 = l.length - i := by omega
  rw [e2]
  congr 1
  rw [List.getElem?_eq_getElem hlt] at h
  exact Option.some.inj h

theorem find_none_take {l : List Nat} {i : Nat} {c : Nat} (h : (l.take i).find? (fun x => x != 0) = none) (hc : l[i]? = some c) (c0 : c = 0) :
    (l.take (i + 1)).find? (fun x => x != 0) = none := by
  rw [List.take_add_one, hc, List.find?_append, h]
  simp [c0]
theorem find_some_take {l : List Nat} {i : Nat} {c : Nat} (h : (l.take i).find? (fun x => x != 0) = none) (hc : l[i]? = some c) (c0 : c ≠ 0) :
    l.find? (fun x => x != 0) = some c := by
  have hlt : i < l.length := by
    rcases Nat.lt_or_ge i l.length with q | q
    · exact q
    · rw [List.getElem?_eq_none q] at hc
      cases hc
  have e : l = l.take i ++ l.drop i := (List.take_append_drop i l).symm
  have ed : l.drop i = c :: l.drop (i + 1) := by
    rw [List.drop_eq_getElem_cons hlt]
    rw [List.getElem?_eq_getElem hlt] at hc
    rw [Option.some.inj hc]
  rw [e, List.find?_append, h, ed]
  simp [c0]
end KM
namespace KM
open Kzt1 (coords pointNo space okField)

theorem coords_cons (p n x : Nat) : coords p (n + 1) x = x % p :: coords p n (x / p) := by
  unfold coords
  rw [List.range_succ_eq_map, List.map_cons, List.map_map]
  congr 1
  · simp
  · apply List.map_congr_left
    intro i _
    show x / p ^ (i + 1) % p = x / p / p ^ i % p
    rw [Nat.pow_succ, Nat.mul_comm, Nat.div_div_eq_div_mul]
theorem hor_lt (p : Nat) : ∀ l : List Nat, (∀ c ∈ l, c < p) → hor p l < p ^ l.length
  | [], _ => by simp [hor]
  | c :: l, h => by
    have ih := hor_lt p l (fun d hd => h d (by simp [hd]))
    have hc : c < p := h c (by simp)
    rw [hor_cons, List.length_cons, Nat.pow_succ]
    calc hor p l * p + c < hor p l * p + p := by omega
      _ = (hor p l + 1) * p := by rw [Nat.add_mul, Nat.one_mul]
      _ ≤ p ^ l.length * p := Nat.mul_le_mul_right _ ih
theorem coords_hor (p : Nat) : ∀ l : List Nat, (∀ c ∈ l, c < p) → coords p l.length (hor p l) = l
  | [], _ => rfl
  | c :: l, h => by
    have hc : c < p := h c (by simp)
    have hp : 0 < p := by omega
    rw [List.length_cons, coords_cons, hor_cons]
    have e1 : (hor p l * p + c) % p = c := by rw [Nat.add_comm, Nat.add_mul_mod_self_right, Nat.mod_eq_of_lt hc]
    have e2 : (hor p l * p + c) / p = hor p l := by rw [Nat.add_comm, Nat.add_mul_div_right _ _ hp, Nat.div_eq_of_lt hc, Nat.zero_add]
    rw [e1, e2, coords_hor p l (fun d hd => h d (by simp [hd]))]
theorem hor_coords (p : Nat) : ∀ n x : Nat, x < p ^ n → hor p (coords p n x) = x
  | 0, x, h => by
    have : x = 0 := by simpa using h
    subst this
    rfl
  | n + 1, x, h => by
    rw [coords_cons, hor_cons, hor_coords p n (x / p)]
    · rw [Nat.mul_comm]
      exact Nat.div_add_mod x p
    · rw [Nat.pow_succ] at h
      exact Nat.div_lt_of_lt_mul (by rw [Nat.mul_comm]; exact h)

theorem lineNums_lt {p n x v t : Nat} (hp : 0 < p) : ∀ c ∈ lineNums p n x v t, c < p := by
  intro c hc
  simp [lineNums] at hc
  obtain ⟨i, _, rfl⟩ := hc
  exact Nat.mod_lt _ hp
theorem lineNums_length (p n x v t : Nat) : (lineNums p n x v t).length = n := by simp [lineNums]
theorem shifted_lt {p n x v t : Nat} (hp : 0 < p) : Kzt2.shifted p n x v t < p ^ n := by
  rw [shifted_eq p n x v t hp]
  have := hor_lt p (lineNums p n x v t) (lineNums_lt hp)
  rwa [lineNums_length] at this
theorem coords_shifted {p n x v t : Nat} (hp : 0 < p) : coords p n (Kzt2.shifted p n x v t) = lineNums p n x v t := by
  have := coords_hor p (lineNums p n x v t) (lineNums_lt hp)
  rwa [lineNums_length, ← shifted_eq p n x v t hp] at this
theorem digit_shifted {p n x v t i : Nat} (hp : 0 < p) (hi : i < n) : Kzt2.shifted p n x v t / p ^ i % p = (x / p ^ i % p + t * (v / p ^ i % p)) % p := by
  have e := congrArg (fun l : List Nat => l[i]?) (coords_shifted (p := p) (n := n) (x := x) (v := v) (t := t) hp)
  simp only [coords_get p n _ i hi] at e
  rw [show (lineNums p n x v t)[i]? = some ((x / p ^ i % p + t * (v / p ^ i % p)) % p) by
    unfold lineNums
    rw [List.getElem?_map, List.getElem?_range hi]
    rfl] at e
  exact Option.some.inj e
theorem shifted_shifted {p n x v t u : Nat} (hp : 0 < p) : Kzt2.shifted p n (Kzt2.shifted p n x v t) v u = Kzt2.shifted p n x v ((t + u) % p) := by
  rw [shifted_eq p n (Kzt2.shifted p n x v t) v u hp, shifted_eq p n x v ((t + u) % p) hp]
  congr 1
  unfold lineNums
  apply List.map_congr_left
  intro i hi
  have hi := List.mem_range.mp hi
  rw [digit_shifted hp hi]
  generalize x / p ^ i % p = a
  generalize v / p ^ i % p = b
  rw [Nat.mod_add_mod, Nat.add_mod a ((t + u) % p * b) p, Nat.mul_mod ((t + u) % p) b p, Nat.mod_mod, ← Nat.mul_mod, ← Nat.add_mod, Nat.add_mul, Nat.add_assoc]
theorem shifted_zero {p n x v : Nat} (hp : 0 < p) (hx : x < p ^ n) : Kzt2.shifted p n x v 0 = x := by
  rw [shifted_eq p n x v 0 hp]
  have : lineNums p n x v 0 = coords p n x := by
    unfold lineNums coords
    apply List.map_congr_left
    intro i _
    rw [Nat.zero_mul, Nat.add_zero, Nat.mod_mod]
  rw [this, hor_coords p n x hx]
theorem mem_lineAt {p n x v y : Nat} : y ∈ Kzt2.lineAt p n x v ↔ ∃ t < p, Kzt2.shifted p n x v t = y := by
  unfold Kzt2.lineAt
  simp
/-- some line in the direction v lies in s -/
def onLine (p n : Nat) (s : List Nat) (v x : Nat) : Bool := (Kzt2.lineAt p n x v).all fun y => s.contains y
theorem onLine_iff {p n : Nat} {s : List Nat} {v x : Nat} : onLine p n s v x = true ↔ ∀ t < p, Kzt2.shifted p n x v t ∈ s := by
  unfold onLine
  rw [List.all_eq_true]
  constructor
  · intro h t ht
    simpa using h _ (mem_lineAt.mpr ⟨t, ht, rfl⟩)
  · intro h y hy
    obtain ⟨t, ht, rfl⟩ := mem_lineAt.mp hy
    simpa using h t ht
/-- a least value of a function below p -/
theorem least_at (f : Nat → Nat) : ∀ p : Nat, 0 < p → ∃ t < p, ∀ u < p, f t ≤ f u
  | 1, _ => ⟨0, by omega, fun u hu => by have : u = 0 := by omega
                                         subst this
                                         exact Nat.le_refl _⟩
  | p + 2, _ => by
    obtain ⟨t, ht, h⟩ := least_at f (p + 1) (by omega)
    by_cases c : f t ≤ f (p + 1)
    · refine ⟨t, by omega, fun u hu => ?_⟩
      by_cases e : u = p + 1
      · subst e
        exact c
      · exact h u (by omega)
    · refine ⟨p + 1, by omega, fun u hu => ?_⟩
      by_cases e : u = p + 1
      · subst e
        exact Nat.le_refl _
      · have := h u (by omega)
        omega
theorem has_iff {p n : Nat} {s : List Nat} {v : Nat} (hp : 0 < p) : Kzt2.has p n s v = true ↔ ∃ x < p ^ n, onLine p n s v x = true := by
  unfold Kzt2.has Kzt2.linesIn space
  rw [List.any_eq_true]
  constructor
  · rintro ⟨x, hx, h⟩
    have := (List.mem_filter.mp hx).1
    exact ⟨x, List.mem_range.mp this, h⟩
  · rintro ⟨x, hx, h⟩
    obtain ⟨t, ht, hmin⟩ := least_at (Kzt2.shifted p n x v) p hp
    refine ⟨Kzt2.shifted p n x v t, List.mem_filter.mpr ⟨List.mem_range.mpr (shifted_lt hp), ?_⟩, ?_⟩
    · rw [List.all_eq_true]
      intro y hy
      obtain ⟨u, hu, rfl⟩ := mem_lineAt.mp hy
      rw [shifted_shifted hp]
      exact decide_eq_true (hmin _ (Nat.mod_lt _ hp))
    · show onLine p n s v _ = true
      rw [onLine_iff]
      intro u hu
      rw [shifted_shifted hp]
      exact onLine_iff.mp h _ (Nat.mod_lt _ hp)
/-- by any start -/
theorem has_range {p n : Nat} {s : List Nat} {v : Nat} (hp : 0 < p) : Kzt2.has p n s v = (List.range (p ^ n)).any (onLine p n s v) := by
  rw [Bool.eq_iff_iff, has_iff hp, List.any_eq_true]
  constructor
  · rintro ⟨x, hx, h⟩
    exact ⟨x, List.mem_range.mpr hx, h⟩
  · rintro ⟨x, hx, h⟩
    exact ⟨x, List.mem_range.mp hx, h⟩
/-- by the set's own points -/
theorem has_set {p n : Nat} {s : List Nat} {v : Nat} (hp : 0 < p) (hs : ∀ y ∈ s, y < p ^ n) : Kzt2.has p n s v = s.any (onLine p n s v) := by
  rw [Bool.eq_iff_iff, has_iff hp, List.any_eq_true]
  constructor
  · rintro ⟨x, hx, h⟩
    refine ⟨x, ?_, h⟩
    have := onLine_iff.mp h 0 hp
    rwa [shifted_zero hp hx] at this
  · rintro ⟨x, hx, h⟩
    exact ⟨x, hs x hx, h⟩
end KM
namespace KM
open Kzt1 (rising okSet okField)
/-- a row that goes on rising from m, below c -/
def okFrom (c : Nat) : Int → List Nat → Bool
  | _, [] => true
  | m, x :: l => decide (m < (x : Int)) && decide ((x : Int) < (c : Int)) && okFrom c (x : Int) l
theorem okFrom_nat (c : Nat) : ∀ (l : List Nat) (a : Nat), okFrom c (a : Int) l = (rising (a :: l) && l.all fun x => decide (x < c))
  | [], a => by simp [okFrom, rising]
  | x :: l, a => by
    have ih := okFrom_nat c l x
    unfold okFrom
    rw [ih]
    have e1 : decide ((a : Int) < (x : Int)) = decide (a < x) := decide_eq_decide.mpr (by omega)
    have e2 : decide ((x : Int) < (c : Int)) = decide (x < c) := decide_eq_decide.mpr (by omega)
    rw [e1, e2]
    show _ = ((decide (a < x) && rising (x :: l)) && (decide (x < c) && l.all fun x => decide (x < c)))
    cases decide (a < x) <;> cases decide (x < c) <;> cases rising (x :: l) <;> rfl
theorem okFrom_set (p n : Nat) (s : List Nat) : okFrom (p ^ n) (-1) s = okSet p n s := by
  cases s with
  | nil => rfl
  | cons x l =>
    unfold okFrom okSet
    rw [okFrom_nat]
    have e1 : decide ((-1 : Int) < (x : Int)) = true := decide_eq_true (by omega)
    have e2 : decide ((x : Int) < ((p ^ n : Nat) : Int)) = decide (x < p ^ n) := decide_eq_decide.mpr (by omega)
    rw [e1, e2, List.all_cons]
    cases decide (x < p ^ n) <;> cases rising (x :: l) <;> rfl
theorem rising_pair : ∀ l : List Nat, rising l = true → l.Pairwise (· < ·)
  | [], _ => List.Pairwise.nil
  | [a], _ => List.pairwise_singleton _ _
  | a :: b :: l, h => by
    have h' : (decide (a < b) && rising (b :: l)) = true := h
    rw [Bool.and_eq_true] at h'
    have ih := rising_pair (b :: l) h'.2
    have hab := of_decide_eq_true h'.1
    refine List.pairwise_cons.mpr ⟨fun c hc => ?_, ih⟩
    rcases List.mem_cons.mp hc with rfl | hc
    · exact hab
    · have := (List.pairwise_cons.mp ih).1 c hc
      omega
theorem okSet_nodup {p n : Nat} {s : List Nat} (h : okSet p n s = true) : s.Nodup := by
  unfold okSet at h
  rw [Bool.and_eq_true] at h
  exact (rising_pair s h.1).imp (fun hab => Nat.ne_of_lt hab)
theorem okSet_lt {p n : Nat} {s : List Nat} (h : okSet p n s = true) : ∀ y ∈ s, y < p ^ n := by
  unfold okSet at h
  rw [Bool.and_eq_true, List.all_eq_true] at h
  exact fun y hy => of_decide_eq_true (h.2 y hy)
theorem nat_list (s : List Int) (h : ∀ z ∈ s, 0 ≤ z) : ∃ l : List Nat, s = l.map (fun (y : Nat) => (y : Int)) := by
  refine ⟨s.map Int.toNat, ?_⟩
  rw [List.map_map]
  conv => lhs; rw [← List.map_id s]
  apply List.map_congr_left
  intro z hz
  have := h z hz
  show z = ((z.toNat : Nat) : Int)
  omega
theorem natsOf_map (l : List Nat) : (l.map (fun (y : Nat) => (y : Int))).map Int.toNat = l := by
  rw [List.map_map]
  conv => rhs; rw [← List.map_id l]
  apply List.map_congr_left
  intro y _
  rfl
theorem any_take_succ {α : Type} (f : α → Bool) (l : List α) (i : Nat) (x : α) (h : l[i]? = some x) : (l.take (i + 1)).any f = ((l.take i).any f || f x) := by
  rw [List.take_add_one, h, List.any_append]
  simp
end KM
namespace KM
open Kzt1 (Term total lexBefore before put norm okPoly degree cut readPoly)

/-! ### the order of terms -/
theorem lex_irrefl : ∀ l : List Nat, lexBefore l l = false
  | [] => rfl
  | a :: l => by
    unfold lexBefore
    rw [lex_irrefl l]
    simp
theorem lex_trans : ∀ a b c : List Nat, lexBefore a b = true → lexBefore b c = true → lexBefore a c = true
  | [], _, _, h, _ => by unfold lexBefore at h; cases h
  | _ :: _, [], _, h, _ => by unfold lexBefore at h; cases h
  | _ :: _, _ :: _, [], _, h => by unfold lexBefore at h; cases h
  | x :: a, y :: b, z :: c, h1, h2 => by
    unfold lexBefore at h1 h2 ⊢
    simp only [Bool.or_eq_true, decide_eq_true_eq, Bool.and_eq_true, beq_iff_eq] at h1 h2 ⊢
    rcases h1 with h1 | ⟨e1, h1⟩
    · rcases h2 with h2 | ⟨e2, h2⟩
      · exact .inl (by omega)
      · exact .inl (by omega)
    · rcases h2 with h2 | ⟨e2, h2⟩
      · exact .inl (by omega)
      · exact .inr ⟨by omega, lex_trans a b c h1 h2⟩
theorem lex_tri : ∀ a b : List Nat, a.length = b.length → a ≠ b → lexBefore a b = false → lexBefore b a = true
  | [], [], _, h, _ => absurd rfl h
  | [], _ :: _, h, _, _ => by simp at h
  | _ :: _, [], h, _, _ => by simp at h
  | x :: a, y :: b, hl, hne, hf => by
    unfold lexBefore at hf ⊢
    simp only [Bool.or_eq_false_iff, decide_eq_false_iff_not, Bool.and_eq_false_imp, beq_iff_eq] at hf
    simp only [Bool.or_eq_true, decide_eq_true_eq, Bool.and_eq_true, beq_iff_eq]
    by_cases e : y = x
    · subst e
      exact .inr ⟨rfl, lex_tri a b (by simpa using hl) (fun z => hne (by rw [z])) (hf.2 rfl)⟩
    · exact .inl (by omega)
theorem before_irrefl (e : List Nat) : before e e = false := by
  unfold before
  rw [lex_irrefl]
  simp
theorem before_trans {a b c : List Nat} (h1 : before a b = true) (h2 : before b c = true) : before a c = true := by
  unfold before at h1 h2 ⊢
  simp only [Bool.or_eq_true, decide_eq_true_eq, Bool.and_eq_true, beq_iff_eq] at h1 h2 ⊢
  rcases h1 with h1 | ⟨e1, h1⟩
  · rcases h2 with h2 | ⟨e2, h2⟩
    · exact .inl (by omega)
    · exact .inl (by omega)
  · rcases h2 with h2 | ⟨e2, h2⟩
    · exact .inl (by omega)
    · exact .inr ⟨by omega, lex_trans a b c h1 h2⟩
theorem before_asymm {a b : List Nat} (h : before a b = true) : before b a = false := by
  cases e : before b a with
  | false => rfl
  | true =>
    have := before_trans h e
    rw [before_irrefl] at this
    cases this
theorem before_tri {a b : List Nat} (hl : a.length = b.length) (hne : a ≠ b) (h : before a b = false) : before b a = true := by
  unfold before at h ⊢
  simp only [Bool.or_eq_false_iff, decide_eq_false_iff_not, Bool.and_eq_false_imp, beq_iff_eq] at h
  simp only [Bool.or_eq_true, decide_eq_true_eq, Bool.and_eq_true, beq_iff_eq]
  by_cases e : total b = total a
  · exact .inr ⟨e, lex_tri a b hl hne (h.2 e.symm)⟩
  · exact .inl (by omega)

/-! ### a row of terms is its own norm where it rises -/
def Rising (f : List Term) : Prop := f.Pairwise fun t u => before t.e u.e = true
theorem put_last (p : Nat) (t : Term) (hc : t.c % p ≠ 0) : ∀ f : List Term, (∀ u ∈ f, before u.e t.e = true) → put p t f = f ++ [⟨t.c % p, t.e⟩]
  | [], _ => by
    unfold put
    rw [if_neg hc]
    rfl
  | u :: f, h => by
    have hu := h u (by simp)
    have hne : t.e ≠ u.e := fun e => by
      rw [e, before_irrefl] at hu
      cases hu
    unfold put
    rw [if_neg hne, before_asymm hu, if_neg Bool.false_ne_true, put_last p t hc f (fun w hw => h w (by simp [hw]))]
    rfl
theorem norm_append (p : Nat) (f : List Term) (t : Term) : norm p (f ++ [t]) = put p t (norm p f) := by
  unfold norm
  rw [List.foldl_append]
  rfl
/-- a rising row, with no factor of 0: its factors are taken modulo p -/
theorem norm_rising_mod (p : Nat) (f : List Term) (hr : Rising f) (hc : ∀ t ∈ f, t.c % p ≠ 0) : norm p f = f.map fun t => ⟨t.c % p, t.e⟩ := by
  have key : ∀ k ≤ f.length, norm p (f.take k) = (f.take k).map fun t => ⟨t.c % p, t.e⟩ := by
    intro k
    induction k with
    | zero =>
      intro _
      rfl
    | succ k ih =>
      intro hk
      have hk' : k < f.length := by omega
      rw [List.take_succ_eq_append_getElem hk', norm_append, ih (by omega), put_last p f[k] (hc _ (List.getElem_mem hk')), List.map_append]
      · rfl
      · intro u hu
        rw [List.mem_map] at hu
        obtain ⟨w, hw, rfl⟩ := hu
        obtain ⟨i, hi, rfl⟩ := List.mem_iff_getElem.mp hw
        rw [List.length_take] at hi
        rw [List.getElem_take]
        exact List.pairwise_iff_getElem.mp hr i k (by omega) hk' (by omega)
  have := key f.length (Nat.le_refl _)
  rwa [List.take_length] at this
theorem norm_rising (p : Nat) (f : List Term) (hr : Rising f) (hc : ∀ t ∈ f, 1 ≤ t.c ∧ t.c < p) : norm p f = f := by
  rw [norm_rising_mod p f hr]
  · conv => rhs; rw [← List.map_id f]
    apply List.map_congr_left
    intro t ht
    have := hc t ht
    rw [Nat.mod_eq_of_lt this.2]
    rfl
  · intro t ht
    have := hc t ht
    rw [Nat.mod_eq_of_lt this.2]
    omega
theorem put_mem (p : Nat) (t : Term) : ∀ (f : List Term) (w : Term), w ∈ put p t f → w.e = t.e ∨ w ∈ f
  | [], w, h => by
    unfold put at h
    split at h
    · cases h
    · left
      rw [List.mem_singleton.mp h]
  | u :: f, w, h => by
    unfold put at h
    split at h
    · next e =>
      split at h
      · exact .inr (by simp [h])
      · rcases List.mem_cons.mp h with h | h
        · left
          rw [h, e]
        · exact .inr (by simp [h])
    · split at h
      · split at h
        · exact .inr h
        · rcases List.mem_cons.mp h with h | h
          · left
            rw [h]
          · exact .inr h
      · rcases List.mem_cons.mp h with h | h
        · exact .inr (by simp [h])
        · rcases put_mem p t f w h with h | h
          · exact .inl h
          · exact .inr (by simp [h])
theorem put_rising (p n : Nat) (t : Term) (ht : t.e.length = n) : ∀ f : List Term, (∀ u ∈ f, u.e.length = n) → Rising f → Rising (put p t f)
  | [], _, _ => by
    unfold put
    split
    · exact List.Pairwise.nil
    · exact List.pairwise_singleton _ _
  | u :: f, hl, hr => by
    have hu := List.pairwise_cons.mp hr
    unfold put
    split
    · next e =>
      split
      · exact hu.2
      · exact List.pairwise_cons.mpr ⟨hu.1, hu.2⟩
    · next hne =>
      split
      · next hb =>
        split
        · exact hr
        · refine List.pairwise_cons.mpr ⟨fun w hw => ?_, hr⟩
          rcases List.mem_cons.mp hw with rfl | hw
          · exact hb
          · exact before_trans hb (hu.1 w hw)
      · next hb =>
        refine List.pairwise_cons.mpr ⟨fun w hw => ?_, put_rising p n t ht f (fun w hw => hl w (by simp [hw])) hu.2⟩
        rcases put_mem p t f w hw with h | h
        · rw [h]
          exact before_tri (by rw [ht, hl u (by simp)]) hne (Bool.eq_false_iff.mpr hb)
        · exact hu.1 w h
theorem norm_is_rising (p n : Nat) (f : List Term) (hl : ∀ u ∈ f, u.e.length = n) : Rising (norm p f) ∧ ∀ u ∈ norm p f, u.e.length = n := by
  have key : ∀ (g : List Term) (acc : List Term), (∀ u ∈ g, u.e.length = n) → (Rising acc ∧ ∀ u ∈ acc, u.e.length = n) → (Rising (g.foldl (fun a t => put p t a) acc) ∧ ∀ u ∈ g.foldl (fun a t => put p t a) acc, u.e.length = n) := by
    intro g
    induction g with
    | nil =>
      intro acc _ h
      exact h
    | cons t g ih =>
      intro acc hg h
      refine ih (put p t acc) (fun u hu => hg u (by simp [hu])) ⟨put_rising p n t (hg t (by simp)) acc h.2 h.1, fun u hu => ?_⟩
      rcases put_mem p t acc u hu with e | e
      · rw [e]
        exact hg t (by simp)
      · exact h.2 u e
  exact key f [] hl ⟨List.Pairwise.nil, by simp⟩
/-- each term as the document asks -/
def okTerm (p n : Nat) (t : Term) : Bool := decide (1 ≤ t.c) && decide (t.c < p) && t.e.length == n && t.e.all fun x => decide (x ≤ 12)
/-- each one behind the one ahead of it -/
def upward : List Term → Bool
  | t :: u :: f => before t.e u.e && upward (u :: f)
  | _ => true
theorem upward_iff : ∀ f : List Term, upward f = true ↔ Rising f
  | [] => by simp [upward, Rising]
  | [t] => by simp [upward, Rising]
  | t :: u :: f => by
    unfold upward
    rw [Bool.and_eq_true, upward_iff (u :: f)]
    unfold Rising
    constructor
    · rintro ⟨h1, h2⟩
      refine List.pairwise_cons.mpr ⟨fun w hw => ?_, h2⟩
      rcases List.mem_cons.mp hw with rfl | hw
      · exact h1
      · exact before_trans h1 ((List.pairwise_cons.mp h2).1 w hw)
    · intro h
      have := List.pairwise_cons.mp h
      exact ⟨this.1 u (by simp), this.2⟩
theorem okPoly_eq (p n : Nat) (f : List Term) : okPoly p n f = (f.all (okTerm p n) && upward f) := by
  unfold okPoly
  have e : (f.all fun t => decide (1 ≤ t.c) && decide (t.c < p) && t.e.length == n && t.e.all fun x => decide (x ≤ 12)) = f.all (okTerm p n) := rfl
  rw [e]
  cases h : f.all (okTerm p n) with
  | false => rfl
  | true =>
    rw [Bool.true_and, Bool.true_and]
    have ht : ∀ t ∈ f, (1 ≤ t.c ∧ t.c < p) ∧ t.e.length = n := fun t ht => by
      have := List.all_eq_true.mp h t ht
      unfold okTerm at this
      simp only [Bool.and_eq_true, decide_eq_true_eq, beq_iff_eq] at this
      exact ⟨this.1.1, this.1.2⟩
    rw [Bool.eq_iff_iff, upward_iff, beq_iff_eq]
    constructor
    · intro e
      have := (norm_is_rising p n f fun u hu => (ht u hu).2).1
      rwa [e] at this
    · intro hr
      exact norm_rising p f hr fun t h => (ht t h).1
/-! ### a row cut into terms -/
def cuts (k : Nat) : Nat → List Nat → List Term
  | 0, _ => []
  | i + 1, l => ⟨l.headD 0, (l.drop 1).take k⟩ :: cuts k i (l.drop (k + 1))
theorem cut_eq (k : Nat) : ∀ (m fuel : Nat) (l : List Nat), l.length = m * (k + 1) → m ≤ fuel → cut k fuel l = some (cuts k m l)
  | 0, fuel, l, h, _ => by
    have : l = [] := List.length_eq_zero_iff.mp (by simpa using h)
    subst this
    cases fuel <;> rfl
  | m + 1, 0, l, _, h => by omega
  | m + 1, fuel + 1, [], h, _ => by
    rw [Nat.succ_mul] at h
    simp at h
  | m + 1, fuel + 1, c :: l, h, hf => by
    rw [Nat.succ_mul, List.length_cons] at h
    have hl : l.length = m * (k + 1) + k := by omega
    unfold cut
    rw [if_neg (by omega), cut_eq k m fuel (l.drop k) (by rw [List.length_drop]; omega) (by omega)]
    rfl
theorem cut_none (k : Nat) : ∀ (fuel : Nat) (l : List Nat), l.length % (k + 1) ≠ 0 → l.length ≤ fuel → cut k fuel l = none
  | _, [], h, _ => by simp at h
  | 0, _ :: _, _, h => by simp at h
  | fuel + 1, c :: l, h, hf => by
    rw [List.length_cons] at h hf
    unfold cut
    by_cases hk : l.length < k
    · rw [if_pos hk]
    · rw [if_neg hk, cut_none k fuel (l.drop k) _ (by rw [List.length_drop]; omega)]
      · rfl
      · rw [List.length_drop]
        intro e
        apply h
        have : l.length + 1 = (l.length - k) + (k + 1) := by omega
        rw [this, Nat.add_mod_right]
        exact e
/-- what readPoly says -/
theorem readPoly_eq (p n : Nat) (l : List Nat) : readPoly p n l = if l.length % (n + 1) = 0 ∧ ((cuts n (l.length / (n + 1)) l).all (okTerm p n) && upward (cuts n (l.length / (n + 1)) l)) = true then some (cuts n (l.length / (n + 1)) l) else none := by
  unfold readPoly
  by_cases h : l.length % (n + 1) = 0
  · have hm : l.length = l.length / (n + 1) * (n + 1) := by
      have := Nat.div_add_mod l.length (n + 1)
      rw [h, Nat.add_zero, Nat.mul_comm] at this
      exact this.symm
    rw [cut_eq n (l.length / (n + 1)) l.length l hm (Nat.div_le_self _ _)]
    dsimp only
    rw [okPoly_eq]
    by_cases c : ((cuts n (l.length / (n + 1)) l).all (okTerm p n) && upward (cuts n (l.length / (n + 1)) l)) = true
    · rw [if_pos c, if_pos ⟨h, c⟩]
    · rw [if_neg c, if_neg fun z => c z.2]
  · rw [cut_none n l.length l h (Nat.le_refl _), if_neg fun z => h z.1]
theorem cuts_length (k : Nat) : ∀ (m : Nat) (l : List Nat), (cuts k m l).length = m
  | 0, _ => rfl
  | m + 1, l => by
    unfold cuts
    rw [List.length_cons, cuts_length k m]
theorem cuts_get (k : Nat) : ∀ (m i : Nat) (l : List Nat), i < m → (cuts k m l)[i]? = some ⟨(l.drop (i * (k + 1))).headD 0, (l.drop (i * (k + 1) + 1)).take k⟩
  | 0, i, l, h => by omega
  | m + 1, 0, l, h => by
    unfold cuts
    simp
  | m + 1, i + 1, l, h => by
    unfold cuts
    rw [List.getElem?_cons_succ, cuts_get k m i _ (by omega), List.drop_drop, List.drop_drop, Nat.succ_mul, Nat.add_comm (k + 1) (i * (k + 1)), ← Nat.add_assoc (k + 1), Nat.add_comm (k + 1) (i * (k + 1))]
end KM
namespace KM
open Kzt1 (inv freed simple)

/-! ### sums below a bound -/
def sumTo (f : Nat → Nat) : Nat → Nat
  | 0 => 0
  | w + 1 => sumTo f w + f w
theorem sumTo_congr {f g : Nat → Nat} : ∀ {w : Nat}, (∀ m < w, f m = g m) → sumTo f w = sumTo g w
  | 0, _ => rfl
  | w + 1, h => by
    show sumTo f w + f w = sumTo g w + g w
    rw [sumTo_congr (fun m hm => h m (by omega)), h w (by omega)]
theorem sumTo_mod {p : Nat} {f g : Nat → Nat} : ∀ {w : Nat}, (∀ m < w, f m % p = g m % p) → sumTo f w % p = sumTo g w % p
  | 0, _ => rfl
  | w + 1, h => by
    show (sumTo f w + f w) % p = (sumTo g w + g w) % p
    rw [Nat.add_mod, sumTo_mod (fun m hm => h m (by omega)), h w (by omega), ← Nat.add_mod]
theorem sumTo_add (f g : Nat → Nat) : ∀ w : Nat, sumTo (fun m => f m + g m) w = sumTo f w + sumTo g w
  | 0 => rfl
  | w + 1 => by
    show sumTo (fun m => f m + g m) w + (f w + g w) = (sumTo f w + f w) + (sumTo g w + g w)
    rw [sumTo_add f g w]
    omega
theorem sumTo_mul (a : Nat) (f : Nat → Nat) : ∀ w : Nat, sumTo (fun m => a * f m) w = a * sumTo f w
  | 0 => rfl
  | w + 1 => by
    show sumTo (fun m => a * f m) w + a * f w = a * (sumTo f w + f w)
    rw [sumTo_mul a f w, Nat.mul_add]
theorem sumTo_zero {f : Nat → Nat} : ∀ {w : Nat}, (∀ m < w, f m = 0) → sumTo f w = 0
  | 0, _ => rfl
  | w + 1, h => by
    show sumTo f w + f w = 0
    rw [sumTo_zero (fun m hm => h m (by omega)), h w (by omega)]
theorem sumTo_one {f : Nat → Nat} {i : Nat} : ∀ {w : Nat}, (∀ m < w, m ≠ i → f m = 0) → i < w → sumTo f w = f i
  | 0, _, h => by omega
  | w + 1, h, hi => by
    show sumTo f w + f w = f i
    by_cases e : i = w
    · subst e
      rw [sumTo_zero (fun m hm => h m (by omega) (by omega)), Nat.zero_add]
    · rw [sumTo_one (fun m hm hne => h m (by omega) hne) (by omega), h w (by omega) (fun z => e z.symm), Nat.add_zero]
theorem sumTo_two {f : Nat → Nat} {i j : Nat} : ∀ {w : Nat}, (∀ m < w, m ≠ i → m ≠ j → f m = 0) → i < j → j < w → sumTo f w = f i + f j
  | 0, _, _, h => by omega
  | w + 1, h, hij, hj => by
    show sumTo f w + f w = f i + f j
    by_cases e : j = w
    · subst e
      rw [sumTo_one (i := i) (fun m hm hne => h m (by omega) hne (by omega)) hij]
    · rw [sumTo_two (i := i) (j := j) (fun m hm h1 h2 => h m (by omega) h1 h2) hij (by omega), h w (by omega) (by omega) (fun z => e z.symm), Nat.add_zero]
/-- what is 0 from k on -/
theorem sumTo_cut {f : Nat → Nat} {k : Nat} : ∀ {w : Nat}, (∀ m < w, k ≤ m → f m = 0) → k ≤ w → sumTo f w = sumTo f k
  | 0, _, h => by
    have : k = 0 := by omega
    subst this
    rfl
  | w + 1, h, hk => by
    by_cases e : k = w + 1
    · rw [e]
    · show sumTo f w + f w = sumTo f k
      rw [sumTo_cut (fun m hm hkm => h m (by omega) hkm) (by omega), h w (by omega) (by omega), Nat.add_zero]

/-! ### rows, and what they make nought -/
def dot (w : Nat) (r : List Nat) (c : Nat → Nat) : Nat := sumTo (fun m => r.getD m 0 * c m) w
def Kills (p w : Nat) (c : Nat → Nat) (r : List Nat) : Prop := dot w r c % p = 0
structure RowOk (p w : Nat) (r : List Nat) : Prop where
  len : r.length = w
  lt : ∀ m, r.getD m 0 < p
def Pr (p : Nat) : Prop := p = 2 ∨ p = 3 ∨ p = 5 ∨ p = 7
theorem Pr.pos {p : Nat} (h : Pr p) : 0 < p := by
  rcases h with h | h | h | h <;> omega
theorem inv_ok {p : Nat} (hp : Pr p) : ∀ a < p, a ≠ 0 → a * inv p a % p = 1 := by
  rcases hp with rfl | rfl | rfl | rfl <;> decide
theorem getD_map_lt {f : Nat → Nat} {r : List Nat} {m : Nat} (h : m < r.length) : (r.map f).getD m 0 = f (r.getD m 0) := by
  simp [List.getD, h]
theorem getD_out {r : List Nat} {m : Nat} (h : r.length ≤ m) : r.getD m 0 = 0 := by
  simp [List.getD, h]
theorem freed_get {p j w : Nat} {r s : List Nat} (hr : r.length = w) (hs : s.length = w) {m : Nat} (hm : m < w) : (freed p j r s).getD m 0 = (s.getD m 0 + (p - s.getD j 0) * r.getD m 0) % p := by
  unfold freed
  dsimp only
  have h1 : m < s.length := by omega
  have h2 : m < r.length := by omega
  have e : (s.zip r)[m]? = some (s[m], r[m]) := List.getElem?_zip_eq_some.mpr ⟨List.getElem?_eq_getElem h1, List.getElem?_eq_getElem h2⟩
  simp [List.getD, h1, h2, List.getElem?_map, e]
theorem freed_len {p j w : Nat} {r s : List Nat} (hr : r.length = w) (hs : s.length = w) : (freed p j r s).length = w := by
  unfold freed
  dsimp only
  rw [List.length_map, List.length_zip]
  omega
theorem freed_ok {p j w : Nat} {r s : List Nat} (hp : 0 < p) (hr : RowOk p w r) (hs : RowOk p w s) : RowOk p w (freed p j r s) := by
  refine ⟨freed_len hr.len hs.len, fun m => ?_⟩
  by_cases h : m < w
  · rw [freed_get hr.len hs.len h]
    exact Nat.mod_lt _ hp
  · rw [getD_out (by rw [freed_len hr.len hs.len]; omega)]
    exact hp
theorem dot_freed {p j w : Nat} {r s : List Nat} (hr : r.length = w) (hs : s.length = w) (c : Nat → Nat) : dot w (freed p j r s) c % p = (dot w s c + (p - s.getD j 0) * dot w r c) % p := by
  unfold dot
  rw [← sumTo_mul, ← sumTo_add]
  apply sumTo_mod
  intro m hm
  rw [freed_get hr hs hm, Nat.mod_mul_mod, Nat.add_mul, Nat.mul_assoc]
theorem scaled_get {p v : Nat} {r : List Nat} {m : Nat} (h : m < r.length) : (r.map fun x => x * v % p).getD m 0 = r.getD m 0 * v % p := getD_map_lt (f := fun x => x * v % p) h
theorem scaled_ok {p v w : Nat} {r : List Nat} (hp : 0 < p) (hr : RowOk p w r) : RowOk p w (r.map fun x => x * v % p) := by
  refine ⟨by rw [List.length_map]; exact hr.len, fun m => ?_⟩
  by_cases h : m < r.length
  · rw [scaled_get h]
    exact Nat.mod_lt _ hp
  · rw [getD_out (by rw [List.length_map]; omega)]
    exact hp
theorem dot_scaled {p v w : Nat} {r : List Nat} (hr : r.length = w) (c : Nat → Nat) : dot w (r.map fun x => x * v % p) c % p = (v * dot w r c) % p := by
  unfold dot
  rw [← sumTo_mul]
  apply sumTo_mod
  intro m hm
  rw [scaled_get (by omega), Nat.mod_mul_mod, Nat.mul_comm (r.getD m 0) v, Nat.mul_assoc]
theorem kills_zero {p w : Nat} {r : List Nat} {c : Nat → Nat} (h : ∀ m < w, r.getD m 0 = 0) : Kills p w c r := by
  unfold Kills dot
  rw [sumTo_zero (fun m hm => by rw [h m hm, Nat.zero_mul])]
  exact Nat.zero_mod _
theorem kills_freed {p j w : Nat} {r s : List Nat} (hr : r.length = w) (hs : s.length = w) {c : Nat → Nat} (kr : Kills p w c r) : Kills p w c (freed p j r s) ↔ Kills p w c s := by
  unfold Kills at kr ⊢
  rw [dot_freed hr hs, Nat.add_mod, Nat.mul_mod, kr, Nat.mul_zero, Nat.zero_mod, Nat.add_zero, Nat.mod_mod]
theorem kills_scaled {p v w a : Nat} {r : List Nat} (hr : r.length = w) {c : Nat → Nat} (ha : a * v % p = 1) : Kills p w c (r.map fun x => x * v % p) ↔ Kills p w c r := by
  unfold Kills
  rw [dot_scaled hr]
  constructor
  · intro h
    have h1 : (a * (v * dot w r c)) % p = 0 := by rw [Nat.mul_mod, h, Nat.mul_zero, Nat.zero_mod]
    rw [← Nat.mul_assoc, Nat.mul_mod, ha, Nat.one_mul, Nat.mod_mod] at h1
    exact h1
  · intro h
    rw [Nat.mul_mod, h, Nat.mul_zero, Nat.zero_mod]

/-! ### the rows made simple -/
structure Piv (p w b : Nat) (z : Nat × List Nat) : Prop where
  row : RowOk p w z.2
  col : z.1 < b
  one : z.2.getD z.1 0 = 1
  low : ∀ m < z.1, z.2.getD m 0 = 0
structure Ech (p w b : Nat) (l : List (List Nat)) (k : List (Nat × List Nat)) : Prop where
  rows : ∀ r ∈ l, RowOk p w r
  zero : ∀ r ∈ l, ∀ m < b, r.getD m 0 = 0
  piv : ∀ z ∈ k, Piv p w b z
  off : ∀ z ∈ k, ∀ y ∈ k, z.1 ≠ y.1 → z.2.getD y.1 0 = 0
  uniq : ∀ z ∈ k, ∀ y ∈ k, z.1 = y.1 → z = y
theorem mem_eraseIdx_or {α : Type} [Inhabited α] : ∀ {l : List α} {a : Nat} {x d : α}, x ∈ l → a < l.length → x = l.getD a d ∨ x ∈ l.eraseIdx a
  | y :: l, 0, x, d, h, _ => by
    rcases List.mem_cons.mp h with h | h
    · exact .inl (by simp [h])
    · exact .inr (by simpa using h)
  | y :: l, a + 1, x, d, h, ha => by
    rcases List.mem_cons.mp h with h | h
    · exact .inr (by simp [h])
    · rcases mem_eraseIdx_or (d := d) h (by simpa using ha) with e | e
      · exact .inl (by simpa using e)
      · exact .inr (by simp [e])
theorem simple_ech {p w : Nat} (hp : Pr p) : ∀ (i : Nat) (l : List (List Nat)) (k : List (Nat × List Nat)), i ≤ w → Ech p w (w - i) l k →
    (∃ l', Ech p w w l' (simple p w i l k)) ∧ ∀ c : Nat → Nat, ((∀ r ∈ l, Kills p w c r) ∧ (∀ z ∈ k, Kills p w c z.2)) ↔ ∀ z ∈ simple p w i l k, Kills p w c z.2
  | 0, l, k, _, h => by
    refine ⟨⟨l, h⟩, fun c => ⟨fun q => q.2, fun q => ⟨fun r hr => kills_zero (h.zero r hr), q⟩⟩⟩
  | i + 1, l, k, hi, h => by
    have hpos := hp.pos
    unfold simple
    dsimp only
    have hj : w - (i + 1) < w := by omega
    have hb : w - i = w - (i + 1) + 1 := by omega
    generalize hjd : w - (i + 1) = j at *
    cases hf : l.findIdx? (fun r => r.getD j 0 != 0) with
    | none =>
      have hz : ∀ r ∈ l, r.getD j 0 = 0 := fun r hr => by
        have := List.findIdx?_eq_none_iff.mp hf r hr
        simpa using this
      refine simple_ech hp i l k (by omega) ⟨h.rows, fun r hr m hm => ?_, fun z hz => ?_, h.off, h.uniq⟩
      · by_cases e : m = j
        · subst e
          exact hz r hr
        · exact h.zero r hr m (by omega)
      · have q := h.piv z hz
        exact ⟨q.row, by have := q.col; omega, q.one, q.low⟩
    | some a =>
      dsimp only
      obtain ⟨ha, hra, _⟩ := List.findIdx?_eq_some_iff_getElem.mp hf
      have er : l.getD a [] = l[a] := by simp [List.getD, ha]
      rw [er]
      have hmem : l[a] ∈ l := List.getElem_mem ha
      generalize hrd : l[a] = r at *
      have hrow := h.rows r hmem
      have hrj : r.getD j 0 ≠ 0 := by simpa using hra
      have hv : r.getD j 0 * inv p (r.getD j 0) % p = 1 := inv_ok hp _ (hrow.lt j) hrj
      generalize inv p (r.getD j 0) = v at *
      have hu : RowOk p w (r.map fun x => x * v % p) := scaled_ok hpos hrow
      have uj : (r.map fun x => x * v % p).getD j 0 = 1 := by
        rw [scaled_get (by rw [hrow.len]; exact hj)]
        exact hv
      have ulow : ∀ m < j, (r.map fun x => x * v % p).getD m 0 = 0 := fun m hm => by
        rw [scaled_get (by rw [hrow.len]; omega), h.zero r hmem m hm, Nat.zero_mul, Nat.zero_mod]
      have kscale : ∀ c : Nat → Nat, Kills p w c (r.map fun x => x * v % p) ↔ Kills p w c r := fun c => kills_scaled hrow.len hv
      generalize (r.map fun x => x * v % p) = u at *
      -- a freed row
      have flow : ∀ s : List Nat, RowOk p w s → ∀ m < j, (freed p j u s).getD m 0 = s.getD m 0 := fun s hs m hm => by
        rw [freed_get hu.len hs.len (by omega), ulow m hm, Nat.mul_zero, Nat.add_zero, Nat.mod_eq_of_lt (hs.lt m)]
      have fj : ∀ s : List Nat, RowOk p w s → (freed p j u s).getD j 0 = 0 := fun s hs => by
        rw [freed_get hu.len hs.len hj, uj, Nat.mul_one]
        have := hs.lt j
        rw [show s.getD j 0 + (p - s.getD j 0) = p by omega, Nat.mod_self]
      have hl' : ∀ s ∈ l.eraseIdx a, s ∈ l := fun s hs => List.mem_of_mem_eraseIdx hs
      have hech : Ech p w (w - i) ((l.eraseIdx a).map (freed p j u)) ((k.map fun y => (y.1, freed p j u y.2)) ++ [(j, u)]) := by
        refine ⟨?_, ?_, ?_, ?_, ?_⟩
        · intro s hs
          obtain ⟨t, ht, rfl⟩ := List.mem_map.mp hs
          exact freed_ok hpos hu (h.rows t (hl' t ht))
        · intro s hs m hm
          obtain ⟨t, ht, rfl⟩ := List.mem_map.mp hs
          have hto := h.rows t (hl' t ht)
          by_cases e : m = j
          · subst e
            exact fj t hto
          · rw [flow t hto m (by omega)]
            exact h.zero t (hl' t ht) m (by omega)
        · intro z hz
          rcases List.mem_append.mp hz with hz | hz
          · obtain ⟨y, hy, rfl⟩ := List.mem_map.mp hz
            have q := h.piv y hy
            refine ⟨freed_ok hpos hu q.row, by have := q.col; show y.1 < w - i; omega, ?_, fun m hm => ?_⟩
            · show (freed p j u y.2).getD y.1 0 = 1
              rw [flow y.2 q.row y.1 q.col]
              exact q.one
            · show (freed p j u y.2).getD m 0 = 0
              have hm : m < y.1 := hm
              have := q.col
              rw [flow y.2 q.row m (by omega)]
              exact q.low m hm
          · rw [List.mem_singleton.mp hz]
            exact ⟨hu, by show j < w - i; omega, uj, ulow⟩
        · intro z hz y hy hne
          rcases List.mem_append.mp hz with hz | hz
          · obtain ⟨z', hz', rfl⟩ := List.mem_map.mp hz
            have q := h.piv z' hz'
            rcases List.mem_append.mp hy with hy | hy
            · obtain ⟨y', hy', rfl⟩ := List.mem_map.mp hy
              show (freed p j u z'.2).getD y'.1 0 = 0
              rw [flow z'.2 q.row y'.1 (h.piv y' hy').col]
              exact h.off z' hz' y' hy' hne
            · rw [List.mem_singleton.mp hy]
              exact fj z'.2 q.row
          · rw [List.mem_singleton.mp hz] at hne ⊢
            rcases List.mem_append.mp hy with hy | hy
            · obtain ⟨y', hy', rfl⟩ := List.mem_map.mp hy
              exact ulow y'.1 (h.piv y' hy').col
            · rw [List.mem_singleton.mp hy] at hne
              exact absurd rfl hne
        · intro z hz y hy e
          rcases List.mem_append.mp hz with hz | hz
          · obtain ⟨z', hz', rfl⟩ := List.mem_map.mp hz
            rcases List.mem_append.mp hy with hy | hy
            · obtain ⟨y', hy', rfl⟩ := List.mem_map.mp hy
              rw [h.uniq z' hz' y' hy' e]
            · rw [List.mem_singleton.mp hy] at e
              have := (h.piv z' hz').col
              have e : z'.1 = j := e
              omega
          · rw [List.mem_singleton.mp hz] at e ⊢
            rcases List.mem_append.mp hy with hy | hy
            · obtain ⟨y', hy', rfl⟩ := List.mem_map.mp hy
              have := (h.piv y' hy').col
              have e : j = y'.1 := e
              omega
            · rw [List.mem_singleton.mp hy]
      obtain ⟨h1, h2⟩ := simple_ech hp i _ _ (by omega) hech
      refine ⟨h1, fun c => Iff.trans ?_ (h2 c)⟩
      constructor
      · rintro ⟨q1, q2⟩
        have ku : Kills p w c u := (kscale c).mpr (q1 r hmem)
        refine ⟨fun s hs => ?_, fun z hz => ?_⟩
        · obtain ⟨t, ht, rfl⟩ := List.mem_map.mp hs
          exact (kills_freed hu.len (h.rows t (hl' t ht)).len ku).mpr (q1 t (hl' t ht))
        · rcases List.mem_append.mp hz with hz | hz
          · obtain ⟨y, hy, rfl⟩ := List.mem_map.mp hz
            exact (kills_freed hu.len (h.piv y hy).row.len ku).mpr (q2 y hy)
          · rw [List.mem_singleton.mp hz]
            exact ku
      · rintro ⟨q1, q2⟩
        have ku : Kills p w c u := q2 (j, u) (by simp)
        refine ⟨fun s hs => ?_, fun z hz => ?_⟩
        · rcases mem_eraseIdx_or (d := []) hs ha with e | e
          · rw [e, er]
            exact (kscale c).mp ku
          · exact (kills_freed hu.len (h.rows s hs).len ku).mp (q1 _ (List.mem_map.mpr ⟨s, e, rfl⟩))
        · exact (kills_freed hu.len (h.piv z hz).row.len ku).mp (q2 (z.1, freed p j u z.2) (List.mem_append.mpr (.inl (List.mem_map.mpr ⟨z, hz, rfl⟩))))
end KM
namespace KM
open Kzt1 (inv freed simple coords value row nullOf norm Term)

/-- a term's value at a point -/
def ev (p n : Nat) (e : List Nat) (x : Nat) : Nat := value p [⟨1, e⟩] (coords p n x)
theorem ev_lt {p n : Nat} {e : List Nat} {x : Nat} (hp : 0 < p) : ev p n e x < p := Nat.mod_lt _ hp
theorem row_get {p n : Nat} {ms : List (List Nat)} {x m : Nat} (h : m < ms.length) : (row p n ms x).getD m 0 = ev p n (ms.getD m []) x := by
  unfold row ev
  simp [List.getD, h]
theorem row_ok {p n : Nat} {ms : List (List Nat)} {x : Nat} (hp : 0 < p) : RowOk p ms.length (row p n ms x) := by
  have hl : (row p n ms x).length = ms.length := by
    unfold row
    rw [List.length_map]
  refine ⟨hl, fun m => ?_⟩
  by_cases h : m < ms.length
  · rw [row_get h]
    exact ev_lt hp
  · rw [getD_out (by rw [hl]; omega)]
    exact hp
/-- the terms up to the j-th one, that one with factor 1, come to 0 on the set -/
structure Nought (p n : Nat) (ms : List (List Nat)) (s : List Nat) (j : Nat) (c : Nat → Nat) : Prop where
  one : c j = 1
  lt : ∀ m, c m < p
  off : ∀ m, j < m → c m = 0
  nought : ∀ x ∈ s, sumTo (fun m => ev p n (ms.getD m []) x * c m) ms.length % p = 0
theorem Nought.kills {p n : Nat} {ms : List (List Nat)} {s : List Nat} {j : Nat} {c : Nat → Nat} (h : Nought p n ms s j c) : ∀ r ∈ s.map (row p n ms), Kills p ms.length c r := by
  intro r hr
  obtain ⟨x, hx, rfl⟩ := List.mem_map.mp hr
  have := h.nought x hx
  unfold Kills dot
  refine Eq.trans ?_ this
  congr 1
  apply sumTo_congr
  intro m hm
  rw [row_get hm]
theorem nought_of {p n : Nat} {ms : List (List Nat)} {s : List Nat} {j : Nat} {c : Nat → Nat} (one : c j = 1) (lt : ∀ m, c m < p) (off : ∀ m, j < m → c m = 0) (h : ∀ r ∈ s.map (row p n ms), Kills p ms.length c r) : Nought p n ms s j c := by
  refine ⟨one, lt, off, fun x hx => ?_⟩
  have := h _ (List.mem_map.mpr ⟨x, hx, rfl⟩)
  unfold Kills dot at this
  refine Eq.trans ?_ this
  congr 1
  apply sumTo_congr
  intro m hm
  rw [row_get hm]
section
variable {p w : Nat} {l' : List (List Nat)} {K : List (Nat × List Nat)}
def isPiv (K : List (Nat × List Nat)) (j : Nat) : Bool := K.any fun y => y.1 == j
theorem isPiv_iff {j : Nat} : isPiv K j = true ↔ ∃ z ∈ K, z.1 = j := by
  unfold isPiv
  rw [List.any_eq_true]
  simp
/-- where a row is nought, the last one's place is no pivot -/
theorem not_piv (hp : Pr p) (E : Ech p w w l' K) {c : Nat → Nat} {j : Nat} (one : c j = 1) (off : ∀ m, j < m → c m = 0) (h : ∀ z ∈ K, Kills p w c z.2) : isPiv K j = false := by
  cases e : isPiv K j with
  | false => rfl
  | true =>
    obtain ⟨z, hz, rfl⟩ := isPiv_iff.mp e
    have q := E.piv z hz
    have k := h z hz
    unfold Kills dot at k
    rw [sumTo_one (i := z.1) (fun m hm hne => ?_) q.col, q.one, one] at k
    · rcases hp with rfl | rfl | rfl | rfl <;> simp at k
    · rcases Nat.lt_or_ge m z.1 with c1 | c1
      · rw [q.low m c1, Nat.zero_mul]
      · rw [off m (by omega), Nat.mul_zero]
/-- what it is ahead of the last one's place -/
theorem coef_eq (hp : Pr p) (E : Ech p w w l' K) {c : Nat → Nat} {j : Nat} (hj : j < w) (one : c j = 1) (lt : ∀ m, c m < p) (off : ∀ m, j < m → c m = 0) (h : ∀ z ∈ K, Kills p w c z.2) (all : ∀ i < j, isPiv K i = true)
    {z : Nat × List Nat} (hz : z ∈ K) (hlt : z.1 < j) : c z.1 = (p - z.2.getD j 0 % p) % p := by
  have q := E.piv z hz
  have k := h z hz
  unfold Kills dot at k
  rw [sumTo_two (i := z.1) (j := j) (fun m hm h1 h2 => ?_) hlt hj, q.one, one, Nat.one_mul, Nat.mul_one] at k
  · have l1 := lt z.1
    have l2 := q.row.lt j
    rw [Nat.mod_eq_of_lt l2]
    generalize c z.1 = a at *
    generalize z.2.getD j 0 = b at *
    by_cases e : b = 0
    · subst e
      rw [Nat.add_zero, Nat.mod_eq_of_lt l1] at k
      rw [k, Nat.sub_zero, Nat.mod_self]
    · rw [Nat.mod_eq_of_lt (show p - b < p by omega)]
      rcases Nat.lt_or_ge (a + b) p with c1 | c1
      · rw [Nat.mod_eq_of_lt c1] at k
        omega
      · have e2 : (a + b) % p = a + b - p := by
          rw [Nat.mod_eq_sub_mod c1, Nat.mod_eq_of_lt (by omega)]
        omega
  · rcases Nat.lt_or_ge m j with c1 | c1
    · obtain ⟨y, hy, rfl⟩ := isPiv_iff.mp (all m c1)
      rw [E.off z hz y hy (fun e => h1 e.symm), Nat.zero_mul]
    · rw [off m (by omega), Nat.mul_zero]
/-- the one that is told: the first free place has 1, the pivots ahead of it what makes all nought -/
def sol (p : Nat) (K : List (Nat × List Nat)) (j m : Nat) : Nat := if m = j then 1 else match K.find? fun z => z.1 == m with
  | some z => (p - z.2.getD j 0 % p) % p
  | none => 0
theorem find_piv {m : Nat} (h : isPiv K m = true) : ∃ z ∈ K, z.1 = m ∧ (K.find? fun z => z.1 == m) = some z := by
  cases e : K.find? fun z => z.1 == m with
  | none =>
    obtain ⟨z, hz, q⟩ := isPiv_iff.mp h
    have := List.find?_eq_none.mp e z hz
    simp [q] at this
  | some z =>
    have h1 := List.mem_of_find?_eq_some e
    have h2 := List.find?_some e
    exact ⟨z, h1, by simpa using h2, rfl⟩
theorem find_free {m : Nat} (h : isPiv K m = false) : (K.find? fun z => z.1 == m) = none := by
  rw [List.find?_eq_none]
  intro z hz e
  have : isPiv K m = true := isPiv_iff.mpr ⟨z, hz, by simpa using e⟩
  rw [h] at this
  cases this
theorem sol_off (hp : Pr p) (E : Ech p w w l' K) {j m : Nat} (h : j < m) : sol p K j m = 0 := by
  unfold sol
  rw [if_neg (by omega)]
  cases e : isPiv K m with
  | false => rw [find_free e]
  | true =>
    obtain ⟨z, hz, hm, ez⟩ := find_piv e
    rw [ez]
    dsimp only
    rw [(E.piv z hz).low j (by omega), Nat.zero_mod, Nat.sub_zero, Nat.mod_self]
theorem sol_lt (hp : Pr p) {j m : Nat} : sol p K j m < p := by
  unfold sol
  split
  · rcases hp with rfl | rfl | rfl | rfl <;> decide
  · split
    · exact Nat.mod_lt _ hp.pos
    · exact hp.pos
theorem sol_kills (hp : Pr p) (E : Ech p w w l' K) {j : Nat} (hj : j < w) (free : isPiv K j = false) (all : ∀ i < j, isPiv K i = true) : ∀ z ∈ K, Kills p w (sol p K j) z.2 := by
  intro z hz
  have q := E.piv z hz
  have hne : z.1 ≠ j := fun e => by
    have : isPiv K j = true := isPiv_iff.mpr ⟨z, hz, e⟩
    rw [free] at this
    cases this
  unfold Kills dot
  rcases Nat.lt_or_ge z.1 j with c1 | c1
  · rw [sumTo_two (i := z.1) (j := j) (fun m hm h1 h2 => ?_) c1 hj, q.one]
    · obtain ⟨y, hy, hm, ey⟩ := find_piv (K := K) (m := z.1) (isPiv_iff.mpr ⟨z, hz, rfl⟩)
      have e1 : sol p K j z.1 = (p - z.2.getD j 0 % p) % p := by
        unfold sol
        rw [if_neg hne, ey, E.uniq y hy z hz hm]
      have e2 : sol p K j j = 1 := if_pos rfl
      rw [e1, e2, Nat.one_mul, Nat.mul_one, Nat.mod_eq_of_lt (q.row.lt j), Nat.mod_add_mod]
      have := q.row.lt j
      rw [show p - z.2.getD j 0 + z.2.getD j 0 = p by omega, Nat.mod_self]
    · rcases Nat.lt_or_ge m j with c2 | c2
      · obtain ⟨y, hy, rfl⟩ := isPiv_iff.mp (all m c2)
        rw [E.off z hz y hy (fun e => h1 e.symm), Nat.zero_mul]
      · rw [sol_off hp E (by omega), Nat.mul_zero]
  · rw [sumTo_zero (fun m hm => ?_)]
    · exact Nat.zero_mod _
    · rcases Nat.lt_or_ge m z.1 with c2 | c2
      · rw [q.low m c2, Nat.zero_mul]
      · rw [sol_off hp E (by omega), Nat.mul_zero]
end
/-! ### the first that is nought on the set -/
theorem null_ech {p n : Nat} (hp : Pr p) (ms : List (List Nat)) (s : List Nat) : (∃ l', Ech p ms.length ms.length l' (simple p ms.length ms.length (s.map (row p n ms)) [])) ∧
    ∀ c : Nat → Nat, (∀ r ∈ s.map (row p n ms), Kills p ms.length c r) ↔ ∀ z ∈ simple p ms.length ms.length (s.map (row p n ms)) [], Kills p ms.length c z.2 := by
  have h0 : Ech p ms.length (ms.length - ms.length) (s.map (row p n ms)) [] := by
    refine ⟨fun r hr => ?_, fun r hr m hm => ?_, by simp, by simp, by simp⟩
    · obtain ⟨x, _, rfl⟩ := List.mem_map.mp hr
      exact row_ok hp.pos
    · omega
  obtain ⟨h1, h2⟩ := simple_ech hp ms.length _ _ (Nat.le_refl _) h0
  refine ⟨h1, fun c => Iff.trans ⟨fun q => ⟨q, by simp⟩, fun q => q.1⟩ (h2 c)⟩
theorem first_free {w : Nat} {K : List (Nat × List Nat)} {j : Nat} (h : ((List.range w).find? fun j => !(K.any fun y => y.1 == j)) = some j) : j < w ∧ isPiv K j = false ∧ ∀ i < j, isPiv K i = true := by
  rw [List.find?_range_eq_some] at h
  refine ⟨by simpa using h.2.1, by simpa [isPiv] using h.1, fun i hi => ?_⟩
  have := h.2.2 i hi
  simpa [isPiv] using this
theorem nullOf_some {p n : Nat} (hp : Pr p) {ms : List (List Nat)} {s : List Nat} {j : Nat} {c : Nat → Nat} (hj : j < ms.length) (hc : Nought p n ms s j c) (hmin : ∀ i < j, ∀ d, ¬ Nought p n ms s i d) :
    nullOf p n ms s = some (norm p (ms.zipIdx.map fun y => ⟨c y.2, y.1⟩)) := by
  obtain ⟨⟨l', E⟩, hk⟩ := null_ech (n := n) hp ms s
  unfold nullOf
  dsimp only
  generalize simple p ms.length ms.length (s.map (row p n ms)) [] = K at *
  have kc := (hk c).mp hc.kills
  have nj : isPiv K j = false := not_piv hp E hc.one hc.off kc
  cases hf : (List.range ms.length).find? fun j => !(K.any fun y => y.1 == j) with
  | none =>
    have := List.find?_eq_none.mp hf j (List.mem_range.mpr hj)
    have e : isPiv K j = true := by simpa [isPiv] using this
    rw [nj] at e
    cases e
  | some i =>
    obtain ⟨hi, fi, all⟩ := first_free hf
    have e : i = j := by
      rcases Nat.lt_trichotomy i j with q | q | q
      · refine absurd (nought_of (c := sol p K i) ?_ (fun m => sol_lt hp) (fun m hm => sol_off hp E hm) ((hk _).mpr (sol_kills hp E hi fi all))) (hmin i q _)
        exact if_pos rfl
      · exact q
      · have := all j q
        rw [nj] at this
        cases this
    subst e
    dsimp only
    congr 2
    apply List.map_congr_left
    intro y hy
    have hy2 : y.2 < ms.length := by
      have := List.mem_zipIdx hy
      omega
    congr 1
    show sol p K i y.2 = c y.2
    rcases Nat.lt_trichotomy y.2 i with q | q | q
    · obtain ⟨z, hz, hm, ez⟩ := find_piv (all y.2 q)
      have := coef_eq hp E hi hc.one hc.lt hc.off kc all hz (by omega)
      unfold sol
      rw [if_neg (by omega), ez, ← hm, this]
    · rw [q, hc.one]
      exact if_pos rfl
    · rw [sol_off hp E q, hc.off _ q]
theorem nullOf_none {p n : Nat} (hp : Pr p) {ms : List (List Nat)} {s : List Nat} (h : ∀ j < ms.length, ∀ c, ¬ Nought p n ms s j c) : nullOf p n ms s = none := by
  obtain ⟨⟨l', E⟩, hk⟩ := null_ech (n := n) hp ms s
  unfold nullOf
  dsimp only
  generalize simple p ms.length ms.length (s.map (row p n ms)) [] = K at *
  cases hf : (List.range ms.length).find? fun j => !(K.any fun y => y.1 == j) with
  | none => rfl
  | some i =>
    obtain ⟨hi, fi, all⟩ := first_free hf
    refine absurd (nought_of (c := sol p K i) ?_ (fun m => sol_lt hp) (fun m hm => sol_off hp E hm) ((hk _).mpr (sol_kills hp E hi fi all))) (h i hi _)
    exact if_pos rfl
end KM
namespace KM
open Kzt1 (coords value row nullOf norm Term total before lexBefore put exps insertE monos leastOn least at1 degree powMod)

/-! ### all powers below p -/
theorem exps_mem {p : Nat} : ∀ {n : Nat} {e : List Nat}, e ∈ exps p n ↔ e.length = n ∧ ∀ a ∈ e, a < p
  | 0, e => by
    unfold exps
    constructor
    · intro h
      rw [List.mem_singleton.mp h]
      exact ⟨rfl, by simp⟩
    · intro h
      rw [List.length_eq_zero_iff.mp h.1]
      simp
  | n + 1, e => by
    unfold exps
    rw [List.mem_flatMap]
    constructor
    · rintro ⟨a, ha, h⟩
      obtain ⟨f, hf, rfl⟩ := List.mem_map.mp h
      obtain ⟨h1, h2⟩ := exps_mem.mp hf
      refine ⟨by rw [List.length_cons, h1], fun b hb => ?_⟩
      rcases List.mem_cons.mp hb with rfl | hb
      · exact List.mem_range.mp ha
      · exact h2 b hb
    · rintro ⟨h1, h2⟩
      cases e with
      | nil => simp at h1
      | cons a f =>
        refine ⟨a, List.mem_range.mpr (h2 a (by simp)), List.mem_map.mpr ⟨f, exps_mem.mpr ⟨by simpa using h1, fun b hb => h2 b (by simp [hb])⟩, rfl⟩⟩
theorem exps_nodup (p : Nat) : ∀ n : Nat, (exps p n).Nodup
  | 0 => by
    unfold exps
    simp
  | n + 1 => by
    unfold exps
    unfold List.Nodup
    rw [List.pairwise_flatMap]
    refine ⟨fun a _ => ?_, ?_⟩
    · rw [List.pairwise_map]
      exact List.Pairwise.imp (fun h e => h (List.cons.inj e).2) (exps_nodup p n)
    · refine List.Pairwise.imp ?_ List.nodup_range
      intro a b hab x hx y hy e
      obtain ⟨f, _, rfl⟩ := List.mem_map.mp hx
      obtain ⟨g, _, rfl⟩ := List.mem_map.mp hy
      exact hab (List.cons.inj e).1
theorem total_cons (a : Nat) (e : List Nat) : total (a :: e) = a + total e := by
  unfold total
  have key : ∀ (l : List Nat) (x : Nat), l.foldl (· + ·) x = x + l.foldl (· + ·) 0 := by
    intro l
    induction l with
    | nil => intro x; simp
    | cons b l ih =>
      intro x
      rw [List.foldl_cons, List.foldl_cons, ih, ih (0 + b)]
      omega
  rw [List.foldl_cons, key, Nat.zero_add]
theorem total_le {p : Nat} : ∀ {e : List Nat}, (∀ a ∈ e, a < p) → total e ≤ e.length * (p - 1)
  | [], _ => by simp [total]
  | a :: e, h => by
    have h1 := h a (by simp)
    have h2 := total_le (p := p) (e := e) fun b hb => h b (by simp [hb])
    rw [total_cons, List.length_cons, Nat.succ_mul]
    omega
/-! ### in order -/
def Sorted (l : List (List Nat)) : Prop := l.Pairwise fun a b => before a b = true
theorem insertE_mem {e : List Nat} : ∀ {l : List (List Nat)} {x : List Nat}, x ∈ insertE e l ↔ x = e ∨ x ∈ l
  | [], x => by
    unfold insertE
    simp
  | f :: l, x => by
    unfold insertE
    split
    · simp
    · rw [List.mem_cons, insertE_mem, List.mem_cons]
      constructor
      · rintro (h | h | h)
        · exact .inr (.inl h)
        · exact .inl h
        · exact .inr (.inr h)
      · rintro (h | h | h)
        · exact .inr (.inl h)
        · exact .inl h
        · exact .inr (.inr h)
theorem insertE_sorted {n : Nat} {e : List Nat} (he : e.length = n) : ∀ {l : List (List Nat)}, (∀ f ∈ l, f.length = n) → e ∉ l → Sorted l → Sorted (insertE e l)
  | [], _, _, _ => by
    unfold insertE
    exact List.pairwise_singleton _ _
  | f :: l, hl, hne, hs => by
    have hs' := List.pairwise_cons.mp hs
    unfold insertE
    split
    · next hb =>
      refine List.pairwise_cons.mpr ⟨fun x hx => ?_, hs⟩
      rcases List.mem_cons.mp hx with rfl | hx
      · exact hb
      · exact before_trans hb (hs'.1 x hx)
    · next hb =>
      refine List.pairwise_cons.mpr ⟨fun x hx => ?_, insertE_sorted he (fun g hg => hl g (by simp [hg])) (fun h => hne (by simp [h])) hs'.2⟩
      rcases insertE_mem.mp hx with rfl | hx
      · exact before_tri (by rw [he, hl f (by simp)]) (fun h => hne (by simp [h])) (Bool.eq_false_iff.mpr hb)
      · exact hs'.1 x hx
theorem sort_all {n : Nat} : ∀ {l : List (List Nat)}, (∀ f ∈ l, f.length = n) → l.Nodup → Sorted (l.foldr insertE []) ∧ ∀ x, x ∈ l.foldr insertE [] ↔ x ∈ l
  | [], _, _ => ⟨List.Pairwise.nil, by simp⟩
  | e :: l, hl, hn => by
    have hn' := List.nodup_cons.mp hn
    obtain ⟨h1, h2⟩ := sort_all (l := l) (fun f hf => hl f (by simp [hf])) hn'.2
    rw [List.foldr_cons]
    refine ⟨insertE_sorted (hl e (by simp)) (fun f hf => hl f (by simp [(h2 f).mp hf])) (fun h => hn'.1 ((h2 e).mp h)) h1, fun x => ?_⟩
    rw [insertE_mem, h2, List.mem_cons]
theorem monos_sorted (p n d : Nat) : Sorted (monos p n d) := (sort_all (n := n) (fun f hf => (exps_mem.mp (List.mem_filter.mp hf).1).1) ((exps_nodup p n).filter _)).1
theorem monos_mem {p n d : Nat} {e : List Nat} : e ∈ monos p n d ↔ (e.length = n ∧ ∀ a ∈ e, a < p) ∧ total e ≤ d := by
  unfold monos
  rw [(sort_all (n := n) (fun f hf => (exps_mem.mp (List.mem_filter.mp hf).1).1) ((exps_nodup p n).filter _)).2, List.mem_filter, exps_mem, decide_eq_true_eq]
theorem sorted_eq : ∀ {l m : List (List Nat)}, Sorted l → Sorted m → (∀ x, x ∈ l ↔ x ∈ m) → l = m
  | [], [], _, _, _ => rfl
  | [], y :: m, _, _, h => by
    have := (h y).mpr (by simp)
    cases this
  | x :: l, [], _, _, h => by
    have := (h x).mp (by simp)
    cases this
  | x :: l, y :: m, hl, hm, h => by
    have hl' := List.pairwise_cons.mp hl
    have hm' := List.pairwise_cons.mp hm
    have e : x = y := by
      rcases List.mem_cons.mp ((h x).mp (by simp)) with q | q
      · exact q
      · rcases List.mem_cons.mp ((h y).mpr (by simp)) with r | r
        · exact r.symm
        · have := before_asymm (hm'.1 x q)
          rw [hl'.1 y r] at this
          cases this
    subst e
    congr 1
    refine sorted_eq hl'.2 hm'.2 fun z => ?_
    constructor
    · intro hz
      rcases List.mem_cons.mp ((h z).mp (by simp [hz])) with q | q
      · subst q
        have := hl'.1 z hz
        rw [before_irrefl] at this
        cases this
      · exact q
    · intro hz
      rcases List.mem_cons.mp ((h z).mpr (by simp [hz])) with q | q
      · subst q
        have := hm'.1 z hz
        rw [before_irrefl] at this
        cases this
      · exact q
theorem monos_filter {p n d D : Nat} (h : d ≤ D) : monos p n d = (monos p n D).filter fun e => decide (total e ≤ d) := by
  refine sorted_eq (monos_sorted p n d) ((monos_sorted p n D).filter _) fun x => ?_
  rw [List.mem_filter, monos_mem, monos_mem, decide_eq_true_eq]
  constructor
  · intro q
    exact ⟨⟨q.1, by omega⟩, q.2⟩
  · intro q
    exact ⟨q.1.1, q.2⟩
theorem before_total {a b : List Nat} (h : before a b = true) : total a ≤ total b := by
  unfold before at h
  simp only [Bool.or_eq_true, decide_eq_true_eq, Bool.and_eq_true, beq_iff_eq] at h
  rcases h with h | h
  · omega
  · omega
theorem filter_prefix (d : Nat) : ∀ {M : List (List Nat)}, Sorted M → ∃ k ≤ M.length, (M.filter fun e => decide (total e ≤ d)) = M.take k ∧ ∀ i < M.length, (i < k ↔ total (M.getD i []) ≤ d)
  | [], _ => ⟨0, by simp, rfl, by simp⟩
  | e :: M, h => by
    have h' := List.pairwise_cons.mp h
    by_cases c : total e ≤ d
    · obtain ⟨k, hk, h1, h2⟩ := filter_prefix d h'.2
      refine ⟨k + 1, by simpa using hk, ?_, ?_⟩
      · rw [List.filter_cons_of_pos (by simpa using c), h1]
        rfl
      · intro i hi
        cases i with
        | zero =>
          constructor
          · intro _
            simpa using c
          · intro _
            omega
        | succ i =>
          have := h2 i (by simpa using hi)
          simpa using this
    · refine ⟨0, by simp, ?_, ?_⟩
      · rw [List.take_zero, List.filter_eq_nil_iff]
        intro x hx
        rcases List.mem_cons.mp hx with rfl | hx
        · simpa using c
        · have := before_total (h'.1 x hx)
          simp only [decide_eq_true_eq]
          omega
      · intro i hi
        refine ⟨fun z => by omega, fun z => ?_⟩
        exfalso
        have hm : (e :: M).getD i [] ∈ e :: M := by
          rw [List.getD_eq_getElem?_getD, List.getElem?_eq_getElem hi]
          exact List.getElem_mem hi
        rcases List.mem_cons.mp hm with q | q
        · rw [q] at z
          exact c z
        · have := before_total (h'.1 _ q)
          omega
theorem nought_take {p n : Nat} {M : List (List Nat)} {s : List Nat} {j k : Nat} {c : Nat → Nat} (hj : j < k) (hk : k ≤ M.length) : Nought p n (M.take k) s j c ↔ Nought p n M s j c := by
  have e : ∀ x : Nat, (∀ m, j < m → c m = 0) → sumTo (fun m => ev p n ((M.take k).getD m []) x * c m) (M.take k).length = sumTo (fun m => ev p n (M.getD m []) x * c m) M.length := fun x off => by
    rw [List.length_take, Nat.min_eq_left hk]
    rw [sumTo_cut (f := fun m => ev p n (M.getD m []) x * c m) (k := k) (fun m _ hm => by rw [off m (by omega), Nat.mul_zero]) hk]
    apply sumTo_congr
    intro m hm
    have : (M.take k).getD m [] = M.getD m [] := by
      simp [List.getD, List.getElem?_take, hm]
    rw [this]
  constructor
  · intro h
    exact ⟨h.one, h.lt, h.off, fun x hx => by rw [← e x h.off]; exact h.nought x hx⟩
  · intro h
    exact ⟨h.one, h.lt, h.off, fun x hx => by rw [e x h.off]; exact h.nought x hx⟩
/-! ### the least degree -/
theorem leastOn_some {p n : Nat} {s : List Nat} {d : Nat} {f : List Term} (hf : nullOf p n (monos p n d) s = some f) : ∀ (k d0 : Nat), d0 ≤ d → d < d0 + k → (∀ i, d0 ≤ i → i < d → nullOf p n (monos p n i) s = none) → leastOn p n s k d0 = some (d, f)
  | 0, d0, h1, h2, _ => by omega
  | k + 1, d0, h1, h2, h3 => by
    unfold leastOn
    by_cases e : d0 = d
    · subst e
      rw [hf]
    · rw [h3 d0 (Nat.le_refl _) (by omega)]
      exact leastOn_some hf k (d0 + 1) (by omega) (by omega) fun i h4 h5 => h3 i (by omega) h5
theorem leastOn_high {p n : Nat} {s : List Nat} {b : Nat} : ∀ (k d0 : Nat), (∀ i, d0 ≤ i → i < b → nullOf p n (monos p n i) s = none) → ∀ y, leastOn p n s k d0 = some y → b ≤ y.1
  | 0, d0, _, y, h => by
    unfold leastOn at h
    cases h
  | k + 1, d0, h3, y, h => by
    unfold leastOn at h
    by_cases e : d0 < b
    · rw [h3 d0 (Nat.le_refl _) e] at h
      exact leastOn_high k (d0 + 1) (fun i h4 h5 => h3 i (by omega) h5) y h
    · split at h
      · cases h
        show b ≤ d0
        omega
      · exact leastOn_high k (d0 + 1) (fun i h4 h5 => h3 i (by omega) h5) y h
/-- the terms that are told: those with a factor, up to the j-th one -/
def polyOf (M : List (List Nat)) (c : Nat → Nat) : List Term := (M.zipIdx.map fun y => (⟨c y.2, y.1⟩ : Term)).filter fun t => t.c != 0
theorem put_zero (p : Nat) (t : Term) (hc : t.c % p = 0) : ∀ f : List Term, (∀ u ∈ f, before u.e t.e = true) → put p t f = f
  | [], _ => by
    unfold put
    rw [if_pos hc]
  | u :: f, h => by
    have hu := h u (by simp)
    have hne : t.e ≠ u.e := fun e => by
      rw [e, before_irrefl] at hu
      cases hu
    unfold put
    rw [if_neg hne, before_asymm hu, if_neg Bool.false_ne_true, put_zero p t hc f (fun w hw => h w (by simp [hw]))]
theorem norm_zeros (p : Nat) (f : List Term) (hr : Rising f) (hc : ∀ t ∈ f, t.c < p) : norm p f = f.filter fun t => t.c != 0 := by
  have key : ∀ k ≤ f.length, norm p (f.take k) = (f.take k).filter fun t => t.c != 0 := by
    intro k
    induction k with
    | zero =>
      intro _
      rfl
    | succ k ih =>
      intro hk
      have hk' : k < f.length := by omega
      have hlt := hc _ (List.getElem_mem hk')
      have hb : ∀ u ∈ (f.take k).filter fun t => t.c != 0, before u.e f[k].e = true := by
        intro u hu
        obtain ⟨i, hi, rfl⟩ := List.mem_iff_getElem.mp (List.mem_filter.mp hu).1
        rw [List.length_take] at hi
        rw [List.getElem_take]
        exact List.pairwise_iff_getElem.mp hr i k (by omega) hk' (by omega)
      rw [List.take_succ_eq_append_getElem hk', norm_append, ih (by omega), List.filter_append]
      by_cases e : f[k].c = 0
      · rw [put_zero p f[k] (by rw [e, Nat.zero_mod]) _ hb]
        simp [e]
      · rw [put_last p f[k] (by rw [Nat.mod_eq_of_lt hlt]; exact e) _ hb, Nat.mod_eq_of_lt hlt]
        simp [e]
  have := key f.length (Nat.le_refl _)
  rwa [List.take_length] at this
theorem poly_rising {M : List (List Nat)} (h : Sorted M) (c : Nat → Nat) : Rising (M.zipIdx.map fun y => (⟨c y.2, y.1⟩ : Term)) := by
  unfold Rising
  rw [List.pairwise_iff_getElem]
  intro i j hi hj hij
  rw [List.length_map, List.length_zipIdx] at hi hj
  simp only [List.getElem_map, List.getElem_zipIdx]
  exact List.pairwise_iff_getElem.mp h i j hi hj hij
theorem polyOf_take {M : List (List Nat)} {c : Nat → Nat} {j k : Nat} (hj : j < M.length) (hk : j < k) (off : ∀ m, j < m → c m = 0) : polyOf (M.take k) c = polyOf (M.take (j + 1)) c := by
  have e : M.take k = M.take (j + 1) ++ (M.drop (j + 1)).take (k - (j + 1)) := by
    rw [← List.take_add]
    congr 1
    omega
  unfold polyOf
  rw [e, List.zipIdx_append, List.map_append, List.filter_append]
  have z : ((((M.drop (j + 1)).take (k - (j + 1))).zipIdx (0 + (M.take (j + 1)).length)).map fun y => (⟨c y.2, y.1⟩ : Term)).filter (fun t => t.c != 0) = [] := by
    rw [List.filter_eq_nil_iff]
    intro t ht
    obtain ⟨y, hy, rfl⟩ := List.mem_map.mp ht
    have h1 := (List.mem_zipIdx hy).1
    rw [List.length_take] at h1
    have q : c y.2 = 0 := off _ (by omega)
    simp [q]
  rw [z, List.append_nil]
theorem least_some {p n : Nat} (hp : Pr p) {D : Nat} {s : List Nat} {j : Nat} {c : Nat → Nat} (hj : j < (monos p n D).length) (hc : Nought p n (monos p n D) s j c) (hmin : ∀ i < j, ∀ d, ¬ Nought p n (monos p n D) s i d) :
    least p n s = some (total ((monos p n D).getD j []), polyOf ((monos p n D).take (j + 1)) c) := by
  have hmem : (monos p n D).getD j [] ∈ monos p n D := by
    rw [List.getD_eq_getElem?_getD, List.getElem?_eq_getElem hj]
    exact List.getElem_mem hj
  obtain ⟨⟨hl, hlt⟩, htot⟩ := monos_mem.mp hmem
  have hd : total ((monos p n D).getD j []) ≤ n * (p - 1) := by
    have := total_le hlt
    rwa [hl] at this
  unfold least
  generalize hdd : total ((monos p n D).getD j []) = d at *
  -- up to a degree
  have pre : ∀ i ≤ D, ∃ k ≤ (monos p n D).length, monos p n i = (monos p n D).take k ∧ ∀ m < (monos p n D).length, (m < k ↔ total ((monos p n D).getD m []) ≤ i) := fun i hi => by
    obtain ⟨k, hk, h1, h2⟩ := filter_prefix i (monos_sorted p n D)
    exact ⟨k, hk, (monos_filter hi).trans h1, h2⟩
  refine leastOn_some ?_ _ 0 (Nat.zero_le _) (by omega) fun i _ hi => ?_
  · obtain ⟨k, hk, h1, h2⟩ := pre d htot
    have hjk : j < k := (h2 j hj).mpr (by omega)
    rw [h1, nullOf_some hp (j := j) (c := c) (by rw [List.length_take]; omega) ((nought_take hjk hk).mpr hc) fun m hm e h => hmin m hm e ((nought_take (by omega) hk).mp h)]
    rw [norm_zeros p _ (poly_rising ((monos_sorted p n D).sublist (List.take_sublist _ _)) c) (fun t ht => ?_)]
    · congr 1
      exact polyOf_take hj hjk hc.off
    · obtain ⟨y, _, rfl⟩ := List.mem_map.mp ht
      exact hc.lt _
  · obtain ⟨k, hk, h1, h2⟩ := pre i (by omega)
    rw [h1]
    refine nullOf_none hp fun m hm e h => ?_
    rw [List.length_take] at hm
    have hmk : m < k := by omega
    have hmj : m < j := by
      rcases Nat.lt_or_ge m j with q | q
      · exact q
      · have q1 : ¬ j < k := fun z => by
          have := (h2 j hj).mp z
          omega
        omega
    exact hmin m hmj e ((nought_take hmk hk).mp h)
theorem least_high {p n : Nat} (hp : Pr p) {D : Nat} {s : List Nat} (h : ∀ j < (monos p n D).length, ∀ c, ¬ Nought p n (monos p n D) s j c) : ∀ y, least p n s = some y → D < y.1 := by
  intro y hy
  unfold least at hy
  refine leastOn_high (b := D + 1) _ 0 (fun i _ hi => ?_) y hy
  obtain ⟨k, hk, h1, h2⟩ := filter_prefix i (monos_sorted p n D)
  rw [monos_filter (show i ≤ D by omega), h1]
  refine nullOf_none hp fun m hm e q => ?_
  rw [List.length_take] at hm
  exact h m (by omega) e ((nought_take (by omega) hk).mp q)
/-! ### the highest terms at a point -/
theorem fold_mod (p : Nat) (hp : 0 < p) : ∀ (l : List (Nat × Nat)) (a : Nat), l.foldl (fun v y => v * powMod p y.2 y.1 % p) a % p = a * l.foldl (fun v y => v * powMod p y.2 y.1 % p) 1 % p
  | [], a => by simp
  | y :: l, a => by
    rw [List.foldl_cons, List.foldl_cons, fold_mod p hp l (a * powMod p y.2 y.1 % p), ← Nat.mul_mod_mod a (l.foldl _ (1 * powMod p y.2 y.1 % p)), fold_mod p hp l (1 * powMod p y.2 y.1 % p), Nat.one_mul, Nat.mod_mul_mod, Nat.mul_mod_mod, Nat.mul_assoc, ← Nat.mul_mod_mod a (powMod p y.2 y.1 % p * _), Nat.mod_mul_mod, Nat.mul_mod_mod]
def fv (p : Nat) (x : List Nat) (t : Term) : Nat := (t.e.zip x).foldl (fun v y => v * powMod p y.2 y.1 % p) t.c
theorem value_one (p : Nat) (e x : List Nat) : value p [⟨1, e⟩] x = fv p x ⟨1, e⟩ % p := by
  show (0 + fv p x ⟨1, e⟩) % p = _
  rw [Nat.zero_add]
theorem fv_mod (p : Nat) (hp : 0 < p) (x : List Nat) (t : Term) : fv p x t % p = t.c * value p [⟨1, t.e⟩] x % p := by
  rw [value_one]
  unfold fv
  rw [fold_mod p hp, Nat.mul_mod_mod]
theorem value_cons (p : Nat) (t : Term) (f : List Term) (x : List Nat) : value p (t :: f) x = (fv p x t + value p f x) % p := by
  have key : ∀ (l : List Nat) (a : Nat), l.foldl (· + ·) a = a + l.foldl (· + ·) 0 := by
    intro l
    induction l with
    | nil => intro a; simp
    | cons b l ih =>
      intro a
      rw [List.foldl_cons, List.foldl_cons, ih, ih (0 + b)]
      omega
  unfold value
  rw [List.map_cons, List.foldl_cons, key, Nat.zero_add, Nat.add_mod_mod]
  rfl
theorem value_append (p : Nat) (f g : List Term) (x : List Nat) : value p (f ++ g) x = (value p f x + value p g x) % p := by
  induction f with
  | nil =>
    show value p g x = (0 % p + value p g x) % p
    rw [Nat.zero_mod, Nat.zero_add]
    unfold value
    rw [Nat.mod_mod]
  | cons t f ih =>
    rw [List.cons_append, value_cons, ih, value_cons, Nat.add_mod_mod, Nat.mod_add_mod, Nat.add_assoc]
/-- the value of the terms that a test keeps -/
theorem value_kept {p n : Nat} (hp : 0 < p) (M : List (List Nat)) (c : Nat → Nat) (keep : List Nat → Bool) (x : Nat) : ∀ k ≤ M.length,
    value p ((polyOf (M.take k) c).filter fun t => keep t.e) (coords p n x) = sumTo (fun m => if keep (M.getD m []) = true then ev p n (M.getD m []) x * c m else 0) k % p
  | 0, _ => by
    simp [polyOf, sumTo, value]
  | k + 1, hk => by
    have hk' : k < M.length := by omega
    have ih := value_kept (n := n) hp M c keep x k (by omega)
    have e : polyOf (M.take (k + 1)) c = polyOf (M.take k) c ++ ([(⟨c k, M[k]⟩ : Term)].filter fun t => t.c != 0) := by
      unfold polyOf
      rw [List.take_succ_eq_append_getElem hk', List.zipIdx_append, List.map_append, List.filter_append]
      congr 1
      rw [List.length_take, Nat.min_eq_left (by omega), Nat.zero_add]
      rfl
    have eg : M.getD k [] = M[k] := by
      rw [List.getD_eq_getElem?_getD, List.getElem?_eq_getElem hk']
      rfl
    rw [e, List.filter_append, value_append, ih]
    show _ = (sumTo _ k + (if keep (M.getD k []) = true then ev p n (M.getD k []) x * c k else 0)) % p
    rw [Nat.mod_add_mod, eg]
    by_cases c0 : c k = 0
    · rw [c0]
      simp [value]
    · by_cases hk2 : keep M[k] = true
      · have : (([(⟨c k, M[k]⟩ : Term)].filter fun t => t.c != 0).filter fun t => keep t.e) = [⟨c k, M[k]⟩] := by
          simp [c0, hk2]
        rw [this, if_pos hk2]
        show (_ + (0 + fv p (coords p n x) ⟨c k, M[k]⟩) % p) % p = _
        rw [Nat.zero_add, fv_mod p hp, Nat.add_mod_mod, Nat.mul_comm]
        rfl
      · have : (([(⟨c k, M[k]⟩ : Term)].filter fun t => t.c != 0).filter fun t => keep t.e) = [] := by
          simp [hk2]
        rw [this, if_neg hk2]
        simp [value]
theorem degree_le {f : List Term} {d : Nat} (h : ∀ t ∈ f, total t.e ≤ d) (ht : ∃ t ∈ f, total t.e = d) : degree f = d := by
  unfold degree
  have key : ∀ (l : List Nat) (a : Nat), a ≤ d → (∀ b ∈ l, b ≤ d) → (l.foldl max a ≤ d ∧ a ≤ l.foldl max a ∧ ∀ b ∈ l, b ≤ l.foldl max a) := by
    intro l
    induction l with
    | nil =>
      intro a ha _
      exact ⟨ha, Nat.le_refl _, by simp⟩
    | cons b l ih =>
      intro a ha hl
      rw [List.foldl_cons]
      have hb := hl b (by simp)
      obtain ⟨h1, h2, h3⟩ := ih (max a b) (by omega) fun x hx => hl x (by simp [hx])
      refine ⟨h1, by omega, fun x hx => ?_⟩
      rcases List.mem_cons.mp hx with rfl | hx
      · omega
      · exact h3 x hx
  obtain ⟨h1, _, h3⟩ := key (f.map fun t => total t.e) 0 (Nat.zero_le _) fun b hb => by
    obtain ⟨t, ht, rfl⟩ := List.mem_map.mp hb
    exact h t ht
  obtain ⟨t, hm, rfl⟩ := ht
  have := h3 (total t.e) (List.mem_map.mpr ⟨t, hm, rfl⟩)
  omega
theorem mem_polyOf {M : List (List Nat)} {c : Nat → Nat} {t : Term} : t ∈ polyOf M c ↔ ∃ m < M.length, t = ⟨c m, M.getD m []⟩ ∧ c m ≠ 0 := by
  unfold polyOf
  rw [List.mem_filter, List.mem_map]
  constructor
  · rintro ⟨⟨y, hy, rfl⟩, h⟩
    have := List.mem_zipIdx hy
    refine ⟨y.2, by omega, ?_, by simpa using h⟩
    have e : M.getD y.2 [] = y.1 := by
      rw [List.getD_eq_getElem?_getD, List.getElem?_eq_getElem (by omega)]
      simp [this.2.2]
    rw [e]
  · rintro ⟨m, hm, rfl, h⟩
    refine ⟨⟨(M.getD m [], m), ?_, rfl⟩, by simpa using h⟩
    rw [List.mem_zipIdx_iff_getElem?]
    show M[m]? = some (M.getD m [])
    rw [List.getD_eq_getElem?_getD, List.getElem?_eq_getElem hm]
    rfl
theorem getD_take {M : List (List Nat)} {k m : Nat} (h : m < k) : (M.take k).getD m [] = M.getD m [] := by
  simp [List.getD, h]
theorem degree_poly {p n D : Nat} {j : Nat} {c : Nat → Nat} (hj : j < (monos p n D).length) (one : c j = 1) : degree (polyOf ((monos p n D).take (j + 1)) c) = total ((monos p n D).getD j []) := by
  refine degree_le (fun t ht => ?_) ⟨⟨c j, (monos p n D).getD j []⟩, ?_, rfl⟩
  · obtain ⟨m, hm, rfl, _⟩ := mem_polyOf.mp ht
    rw [List.length_take] at hm
    show total (((monos p n D).take (j + 1)).getD m []) ≤ _
    rw [getD_take (by omega)]
    rcases Nat.lt_or_ge m j with q | q
    · have h1 : m < (monos p n D).length := by omega
      have := List.pairwise_iff_getElem.mp (monos_sorted p n D) m j h1 hj q
      rw [List.getD_eq_getElem?_getD, List.getElem?_eq_getElem h1, List.getD_eq_getElem?_getD, List.getElem?_eq_getElem hj]
      exact before_total this
    · have : m = j := by omega
      rw [this]
      exact Nat.le_refl _
  · rw [mem_polyOf]
    refine ⟨j, by rw [List.length_take]; omega, ?_, by omega⟩
    rw [getD_take (by omega)]
/-- the highest terms' value at v -/
def hiSum (p n : Nat) (M : List (List Nat)) (c : Nat → Nat) (j v : Nat) : Nat := sumTo (fun m => if total (M.getD m []) = total (M.getD j []) then ev p n (M.getD m []) v * c m else 0) (j + 1) % p
theorem hi_eq {p n D : Nat} (hp : 0 < p) {j : Nat} {c : Nat → Nat} (hj : j < (monos p n D).length) (one : c j = 1) (v : Nat) : at1 p n (Kzt2.top (polyOf ((monos p n D).take (j + 1)) c)) v = hiSum p n (monos p n D) c j v := by
  unfold at1 Kzt2.top
  rw [degree_poly hj one]
  have := value_kept (n := n) hp (monos p n D) c (fun e => total e == total ((monos p n D).getD j [])) v (j + 1) (by omega)
  rw [this]
  unfold hiSum
  simp only [beq_iff_eq]
/-! ### told -/
theorem told_some {p n : Nat} (hp : Pr p) {s : List Nat} {j : Nat} {c : Nat → Nat} (hj : j < (monos p n (p - 1)).length) (hc : Nought p n (monos p n (p - 1)) s j c) (hmin : ∀ i < j, ∀ d, ¬ Nought p n (monos p n (p - 1)) s i d) :
    Kzt2.told1 p n s = (Kzt2.directions p n).find? fun v => hiSum p n (monos p n (p - 1)) c j v != 0 := by
  have hmem : (monos p n (p - 1)).getD j [] ∈ monos p n (p - 1) := by
    rw [List.getD_eq_getElem?_getD, List.getElem?_eq_getElem hj]
    exact List.getElem_mem hj
  have htot := (monos_mem.mp hmem).2
  have hpos := hp.pos
  unfold Kzt2.told1
  rw [least_some hp hj hc hmin]
  dsimp only
  rw [if_pos (by omega)]
  congr 1
  funext v
  rw [hi_eq hpos hj hc.one]
theorem told_none {p n : Nat} (hp : Pr p) {s : List Nat} (h : ∀ j < (monos p n (p - 1)).length, ∀ c, ¬ Nought p n (monos p n (p - 1)) s j c) : Kzt2.told1 p n s = none := by
  have hpos := hp.pos
  unfold Kzt2.told1
  cases e : least p n s with
  | none => rfl
  | some y =>
    have := least_high hp h y e
    obtain ⟨d, f⟩ := y
    dsimp only at this ⊢
    rw [if_neg (by omega)]
end KM
set_option maxRecDepth 100000
namespace KM
open Kzt1 (nullOf Term total before monos okField)
/-! ### some direction is told: the highest terms aren't 0 in all directions -/
def homOf (p n d : Nat) : List (List Nat) := (monos p n (p - 1)).filter fun e => total e == d
theorem hom_none : ∀ p ∈ [2, 3, 5, 7], ∀ n ∈ [1, 2, 3], ∀ d < p, nullOf p n (homOf p n d) (Kzt2.directions p n) = none := by decide +kernel
theorem sumTo_shift {f : Nat → Nat} {k : Nat} : ∀ w : Nat, (∀ m < k, f m = 0) → sumTo f (k + w) = sumTo (fun m => f (k + m)) w
  | 0, h => sumTo_zero h
  | w + 1, h => by
    show sumTo f (k + w) + f (k + w) = sumTo (fun m => f (k + m)) w + f (k + w)
    rw [sumTo_shift w h]
theorem nought_least {p n : Nat} {ms : List (List Nat)} {s : List Nat} : ∀ {j : Nat} {c : Nat → Nat}, Nought p n ms s j c → ∃ i ≤ j, ∃ d, Nought p n ms s i d ∧ ∀ m < i, ∀ e, ¬ Nought p n ms s m e := by
  intro j
  induction j using Nat.strongRecOn with
  | _ j ih =>
    intro c h
    by_cases q : ∃ i < j, ∃ d, Nought p n ms s i d
    · obtain ⟨i, hi, d, hd⟩ := q
      obtain ⟨m, hm, e, he, hmin⟩ := ih i hi hd
      exact ⟨m, by omega, e, he, hmin⟩
    · exact ⟨j, Nat.le_refl _, c, h, fun m hm e he => q ⟨m, hm, e, he⟩⟩
theorem none_nought {p n : Nat} (hp : Pr p) {ms : List (List Nat)} {s : List Nat} (h : nullOf p n ms s = none) : ∀ j < ms.length, ∀ c, ¬ Nought p n ms s j c := by
  intro j hj c hc
  obtain ⟨i, hi, d, hd, hmin⟩ := nought_least hc
  rw [nullOf_some hp (by omega) hd hmin] at h
  cases h
theorem seg {M : List (List Nat)} (h : Sorted M) (d : Nat) : ∃ k0 k1, k0 ≤ k1 ∧ k1 ≤ M.length ∧ (M.filter fun e => total e == d) = (M.take k1).drop k0 ∧ ∀ i < M.length, (i < k0 ↔ total (M.getD i []) < d) ∧ (i < k1 ↔ total (M.getD i []) ≤ d) := by
  obtain ⟨k1, hk1, _, h1⟩ := filter_prefix d h
  have : ∃ k0 ≤ M.length, ∀ i < M.length, (i < k0 ↔ total (M.getD i []) < d) := by
    cases d with
    | zero => exact ⟨0, by omega, fun i _ => by omega⟩
    | succ d =>
      obtain ⟨k0, hk0, _, h0⟩ := filter_prefix d h
      exact ⟨k0, hk0, fun i hi => by rw [h0 i hi]; omega⟩
  obtain ⟨k0, hk0, h0⟩ := this
  have hle : k0 ≤ k1 := by
    rcases Nat.lt_or_ge k1 k0 with q | q
    · have a := (h0 k1 (by omega)).mp q
      have b := (h1 k1 (by omega)).mpr (by omega)
      omega
    · exact q
  refine ⟨k0, k1, hle, hk1, ?_, fun i hi => ⟨h0 i hi, h1 i hi⟩⟩
  have gd : ∀ i (hi : i < M.length), M.getD i [] = M[i] := fun i hi => by
    rw [List.getD_eq_getElem?_getD, List.getElem?_eq_getElem hi]
    rfl
  have e : M = M.take k0 ++ (M.take k1).drop k0 ++ M.drop k1 := by
    rw [show M.take k0 = (M.take k1).take k0 by rw [List.take_take, Nat.min_eq_left hle], List.take_append_drop, List.take_append_drop]
  have f1 : ((M.take k0).filter fun e => total e == d) = [] := by
    rw [List.filter_eq_nil_iff]
    intro x hx
    obtain ⟨i, hi, rfl⟩ := List.mem_iff_getElem.mp hx
    rw [List.length_take] at hi
    have := (h0 i (by omega)).mp (by omega)
    rw [gd i (by omega)] at this
    rw [List.getElem_take]
    simp only [beq_iff_eq]
    omega
  have f2 : (((M.take k1).drop k0).filter fun e => total e == d) = (M.take k1).drop k0 := by
    rw [List.filter_eq_self]
    intro x hx
    obtain ⟨i, hi, rfl⟩ := List.mem_iff_getElem.mp hx
    rw [List.length_drop, List.length_take] at hi
    have a := h0 (k0 + i) (by omega)
    have b := (h1 (k0 + i) (by omega)).mp (by omega)
    rw [gd (k0 + i) (by omega)] at a b
    rw [List.getElem_drop, List.getElem_take]
    simp only [beq_iff_eq]
    omega
  have f3 : ((M.drop k1).filter fun e => total e == d) = [] := by
    rw [List.filter_eq_nil_iff]
    intro x hx
    obtain ⟨i, hi, rfl⟩ := List.mem_iff_getElem.mp hx
    rw [List.length_drop] at hi
    have b := h1 (k1 + i) (by omega)
    rw [gd (k1 + i) (by omega)] at b
    rw [List.getElem_drop]
    simp only [beq_iff_eq]
    omega
  conv => lhs; rw [e]
  rw [List.filter_append, List.filter_append, f1, f2, f3, List.nil_append, List.append_nil]
theorem hi_some {p n : Nat} (hp : Pr p) (hn : n ∈ [1, 2, 3]) {j : Nat} {c : Nat → Nat} (hj : j < (monos p n (p - 1)).length) (one : c j = 1) (lt : ∀ m, c m < p) (off : ∀ m, j < m → c m = 0) :
    ∃ v ∈ Kzt2.directions p n, hiSum p n (monos p n (p - 1)) c j v ≠ 0 := by
  by_cases q : ∃ v ∈ Kzt2.directions p n, hiSum p n (monos p n (p - 1)) c j v ≠ 0
  · exact q
  · exfalso
    have hpos := hp.pos
    have all : ∀ v ∈ Kzt2.directions p n, hiSum p n (monos p n (p - 1)) c j v = 0 := fun v hv => by
      rcases Nat.eq_zero_or_pos (hiSum p n (monos p n (p - 1)) c j v) with h | h
      · exact h
      · exact absurd ⟨v, hv, by omega⟩ q
    have hmem : (monos p n (p - 1)).getD j [] ∈ monos p n (p - 1) := by
      rw [List.getD_eq_getElem?_getD, List.getElem?_eq_getElem hj]
      exact List.getElem_mem hj
    have htot := (monos_mem.mp hmem).2
    have hnone := hom_none p (by rcases hp with rfl | rfl | rfl | rfl <;> simp) n hn (total ((monos p n (p - 1)).getD j [])) (by omega)
    unfold homOf at hnone
    obtain ⟨k0, k1, hle, hk1, ef, hk⟩ := seg (monos_sorted p n (p - 1)) (total ((monos p n (p - 1)).getD j []))
    unfold hiSum at all
    generalize monos p n (p - 1) = M at *
    rw [ef] at hnone
    have j0 : k0 ≤ j := by
      have := (hk j hj).1
      omega
    have j1 : j < k1 := (hk j hj).2.mpr (Nat.le_refl _)
    have hlen : ((M.take k1).drop k0).length = k1 - k0 := by
      rw [List.length_drop, List.length_take]
      omega
    refine none_nought hp hnone (j - k0) (by rw [hlen]; omega) (fun m => c (k0 + m)) ⟨?_, fun m => lt _, fun m hm => off _ (by omega), fun v hv => ?_⟩
    · show c (k0 + (j - k0)) = 1
      rw [show k0 + (j - k0) = j by omega]
      exact one
    · have := all v hv
      rw [show j + 1 = k0 + (j - k0 + 1) by omega, sumTo_shift _ (fun m hm => ?_)] at this
      · refine Eq.trans ?_ this
        congr 1
        rw [hlen, sumTo_cut (k := j - k0 + 1) (fun m hm h2 => ?_) (by omega)]
        · apply sumTo_congr
          intro m hm
          have a := (hk (k0 + m) (by omega)).1
          have b := (hk (k0 + m) (by omega)).2
          rw [if_pos (by omega)]
          congr 2
          simp [List.getD, List.getElem?_drop, show k0 + m < k1 by omega]
        · show _ * c (k0 + m) = 0
          rw [off _ (by omega), Nat.mul_zero]
      · have a := (hk m (by omega)).1.mp hm
        exact if_neg (by omega)
theorem told_found {p n : Nat} (hp : Pr p) (hn : n ∈ [1, 2, 3]) {s : List Nat} {j : Nat} {c : Nat → Nat} (hj : j < (monos p n (p - 1)).length) (hc : Nought p n (monos p n (p - 1)) s j c) (hmin : ∀ i < j, ∀ d, ¬ Nought p n (monos p n (p - 1)) s i d) :
    ∃ v, Kzt2.told1 p n s = some v := by
  rw [told_some hp hj hc hmin]
  obtain ⟨v, hv, h⟩ := hi_some hp hn hj hc.one hc.lt hc.off
  cases e : (Kzt2.directions p n).find? fun v => hiSum p n (monos p n (p - 1)) c j v != 0 with
  | some w => exact ⟨w, rfl⟩
  | none =>
    have := List.find?_eq_none.mp e v hv
    simp at this
    exact absurd this h
end KM
namespace KM
open Kzt1 (freed monos)
/-! ### rows with the factors behind the values -/
def vec (p w : Nat) (a : Nat → Nat → Nat) (c : Nat → Nat) (i : Nat) : Nat := sumTo (fun m => a i m * c m) w % p
def cf (N : Nat) (r : List Nat) : Nat → Nat := fun m => r.getD (N + m) 0
def Con (p N w : Nat) (a : Nat → Nat → Nat) (r : List Nat) : Prop := ∀ i < N, r.getD i 0 = vec p w a (cf N r) i
section
variable {p N w : Nat} {a : Nat → Nat → Nat}
theorem vec_congr {c d : Nat → Nat} {i : Nat} (h : ∀ m < w, c m % p = d m % p) : vec p w a c i = vec p w a d i := by
  unfold vec
  apply sumTo_mod
  intro m hm
  rw [Nat.mul_mod, h m hm, ← Nat.mul_mod]
theorem vec_lin (c d : Nat → Nat) (t i : Nat) : vec p w a (fun m => (c m + t * d m) % p) i = (vec p w a c i + t * vec p w a d i) % p := by
  unfold vec
  rw [Nat.mod_add_mod, Nat.add_mod, Nat.mul_mod_mod, ← Nat.add_mod, ← sumTo_mul, ← sumTo_add]
  apply sumTo_mod
  intro m _
  rw [Nat.mul_mod_mod, Nat.mul_add, ← Nat.mul_assoc, ← Nat.mul_assoc, Nat.mul_comm (a i m) t]
theorem vec_zero {c : Nat → Nat} {i : Nat} (h : ∀ m, c m % p = 0) : vec p w a c i = 0 := by
  rw [vec_congr (d := fun _ => 0) (fun m _ => by rw [h m, Nat.zero_mod])]
  unfold vec
  rw [sumTo_zero (fun m _ => by rw [Nat.mul_zero]), Nat.zero_mod]
theorem con_freed {j : Nat} {r z : List Nat} (hr : RowOk p (N + w) r) (hz : RowOk p (N + w) z) (cr : Con p N w a r) (cz : Con p N w a z) : Con p N w a (freed p j z r) := by
  intro i hi
  rw [freed_get hz.len hr.len (by omega), cr i hi, cz i hi, ← vec_lin]
  apply vec_congr
  intro m hm
  unfold cf
  rw [freed_get hz.len hr.len (by omega)]
theorem con_scaled {t : Nat} {r : List Nat} (hr : RowOk p (N + w) r) (cr : Con p N w a r) : Con p N w a (r.map fun x => t * x % p) := by
  intro i hi
  have e : ∀ m < N + w, (r.map fun x => t * x % p).getD m 0 = t * r.getD m 0 % p := fun m hm => getD_map_lt (f := fun x => t * x % p) (by rw [hr.len]; exact hm)
  rw [e i (by omega), cr i hi]
  have q := vec_lin (p := p) (w := w) (a := a) (fun _ => 0) (cf N r) t i
  have z : vec p w a (fun _ => 0) i = 0 := vec_zero fun _ => Nat.zero_mod _
  rw [z, Nat.zero_add] at q
  rw [← q]
  apply vec_congr
  intro m hm
  unfold cf
  rw [e (N + m) (by omega), Nat.zero_add]
theorem map_ok {t : Nat} {r : List Nat} {b : Nat} (hp : 0 < p) (hr : RowOk p b r) : RowOk p b (r.map fun x => t * x % p) := by
  refine ⟨by rw [List.length_map]; exact hr.len, fun m => ?_⟩
  by_cases h : m < r.length
  · rw [getD_map_lt (f := fun x => t * x % p) h]
    exact Nat.mod_lt _ hp
  · rw [getD_out (by rw [List.length_map]; omega)]
    exact hp
/-! ### the rows that are kept -/
structure KRow (p N w : Nat) (a : Nat → Nat → Nat) (k : Nat) (z : Nat × List Nat) : Prop where
  ok : RowOk p (N + w) z.2
  piv : z.1 < N
  one : z.2.getD z.1 0 = 1
  con : Con p N w a z.2
  off : ∀ m, k < m → cf N z.2 m = 0
structure Kept (p N w : Nat) (a : Nat → Nat → Nat) (kept : List (Nat × List Nat)) : Prop where
  row : ∀ (k : Nat) (z : Nat × List Nat), kept[k]? = some z → KRow p N w a k z
  tri : ∀ (k l : Nat) (z y : Nat × List Nat), l < k → kept[k]? = some z → kept[l]? = some y → z.2.getD y.1 0 = 0
  ind : ∀ c : Nat → Nat, (∀ m, kept.length ≤ m → c m = 0) → (∀ z ∈ kept, vec p w a c z.1 = 0) → ∀ m, c m % p = 0
theorem kept_nil : Kept p N w a [] := by
  refine ⟨fun k z h => by simp at h, fun k l z y _ h _ => by simp at h, fun c h _ m => ?_⟩
  rw [h m (Nat.zero_le _), Nat.zero_mod]
def redu (p : Nat) (kept : List (Nat × List Nat)) (r : List Nat) : List Nat := kept.foldl (fun r z => freed p z.1 z.2 r) r
theorem redu_succ {kept : List (Nat × List Nat)} {i : Nat} {z : Nat × List Nat} (h : kept[i]? = some z) (r : List Nat) : redu p (kept.take (i + 1)) r = freed p z.1 z.2 (redu p (kept.take i) r) := by
  unfold redu
  rw [List.take_add_one, h, List.foldl_append]
  rfl
structure Redu (p N w : Nat) (a : Nat → Nat → Nat) (kept : List (Nat × List Nat)) (i : Nat) (r R : List Nat) : Prop where
  ok : RowOk p (N + w) R
  con : Con p N w a R
  nought : ∀ l < i, ∀ y, kept[l]? = some y → R.getD y.1 0 = 0
  same : ∀ m, kept.length ≤ m → cf N R m = cf N r m
theorem redu_spec (hp : 0 < p) {kept : List (Nat × List Nat)} (K : Kept p N w a kept) {r : List Nat} (hr : RowOk p (N + w) r) (cr : Con p N w a r) : ∀ i ≤ kept.length, Redu p N w a kept i r (redu p (kept.take i) r) := by
  intro i
  induction i with
  | zero =>
    intro _
    exact ⟨hr, cr, fun l hl => by omega, fun _ _ => rfl⟩
  | succ i ih =>
    intro hi
    have I := ih (by omega)
    have hz : kept[i]? = some kept[i] := List.getElem?_eq_getElem (by omega)
    generalize kept[i] = z at hz
    rw [redu_succ hz]
    generalize redu p (kept.take i) r = R at I
    have Z := K.row i z hz
    refine ⟨freed_ok hp Z.ok I.ok, con_freed I.ok Z.ok I.con Z.con, fun l hl y hy => ?_, fun m hm => ?_⟩
    · have Y := K.row l y hy
      have hy1 : y.1 < N + w := Nat.lt_of_lt_of_le Y.piv (by omega)
      rw [freed_get Z.ok.len I.ok.len hy1]
      by_cases e : l = i
      · subst e
        rw [hz] at hy
        cases hy
        have := I.ok.lt z.1
        rw [Z.one, Nat.mul_one, Nat.add_sub_cancel' (by omega), Nat.mod_self]
      · rw [I.nought l (by omega) y hy, K.tri i l z y (by omega) hz hy, Nat.mul_zero, Nat.zero_mod]
    · rw [← I.same m hm]
      unfold cf
      by_cases h : m < w
      · rw [freed_get Z.ok.len I.ok.len (by omega)]
        have e := Z.off m (by omega)
        unfold cf at e
        rw [e, Nat.mul_zero, Nat.add_zero, Nat.mod_eq_of_lt (I.ok.lt _)]
      · rw [getD_out (by rw [freed_len Z.ok.len I.ok.len]; omega), getD_out (by rw [I.ok.len]; omega)]
theorem cancel_mod {x y : Nat} (hp : Pr p) (h : (x + y) % p = y % p) : x % p = 0 := by
  rcases hp with rfl | rfl | rfl | rfl <;> omega
theorem kept_snoc (hp : Pr p) {kept : List (Nat × List Nat)} (K : Kept p N w a kept) (hj : kept.length < w) {R : List Nat} (ok : RowOk p (N + w) R) (con : Con p N w a R) (nought : ∀ y ∈ kept, R.getD y.1 0 = 0)
    (one : cf N R kept.length = 1) (off : ∀ m, kept.length < m → cf N R m = 0) {pv t : Nat} (hpv : pv < N) (ht : R.getD pv 0 * t % p = 1) (htp : t < p) : Kept p N w a (kept ++ [(pv, R.map fun x => t * x % p)]) := by
  have hpos := hp.pos
  have e : ∀ m < N + w, (R.map fun x => t * x % p).getD m 0 = t * R.getD m 0 % p := fun m hm => getD_map_lt (f := fun x => t * x % p) (by rw [ok.len]; exact hm)
  have zok : RowOk p (N + w) (R.map fun x => t * x % p) := map_ok hpos ok
  have zcon : Con p N w a (R.map fun x => t * x % p) := con_scaled ok con
  have zone : (R.map fun x => t * x % p).getD pv 0 = 1 := by
    rw [e pv (by omega), Nat.mul_comm]
    exact ht
  have zoff : ∀ m, kept.length < m → cf N (R.map fun x => t * x % p) m = 0 := fun m hm => by
    unfold cf
    by_cases h : m < w
    · have q := off m hm
      unfold cf at q
      rw [e (N + m) (by omega), q, Nat.mul_zero, Nat.zero_mod]
    · rw [getD_out (by rw [zok.len]; omega)]
  have zt : cf N (R.map fun x => t * x % p) kept.length = t := by
    unfold cf at one ⊢
    rw [e (N + kept.length) (by omega), one, Nat.mul_one, Nat.mod_eq_of_lt htp]
  have znought : ∀ y ∈ kept, (R.map fun x => t * x % p).getD y.1 0 = 0 := fun y hy => by
    obtain ⟨l, hl⟩ := List.mem_iff_getElem?.mp hy
    rw [e y.1 (Nat.lt_of_lt_of_le (K.row l y hl).piv (by omega)), nought y hy, Nat.mul_zero, Nat.zero_mod]
  generalize (R.map fun x => t * x % p) = z at *
  have at' : ∀ k y, (kept ++ [(pv, z)])[k]? = some y → (k < kept.length ∧ kept[k]? = some y) ∨ (k = kept.length ∧ y = (pv, z)) := fun k y h => by
    rcases Nat.lt_trichotomy k kept.length with q | q | q
    · rw [List.getElem?_append_left q] at h
      exact .inl ⟨q, h⟩
    · subst q
      rw [List.getElem?_append_right (Nat.le_refl _), Nat.sub_self] at h
      exact .inr ⟨rfl, (Option.some.inj h).symm⟩
    · rw [List.getElem?_eq_none (by rw [List.length_append]; exact q)] at h
      cases h
  refine ⟨fun k y h => ?_, fun k l x y hlk hx hy => ?_, fun c hc hv => ?_⟩
  · rcases at' k y h with ⟨_, h⟩ | ⟨rfl, rfl⟩
    · exact K.row k y h
    · exact ⟨zok, hpv, zone, zcon, zoff⟩
  · rcases at' k x hx with ⟨hk, hx⟩ | ⟨rfl, rfl⟩
    · rcases at' l y hy with ⟨_, hy⟩ | ⟨rfl, _⟩
      · exact K.tri k l x y hlk hx hy
      · omega
    · rcases at' l y hy with ⟨_, hy⟩ | ⟨rfl, _⟩
      · exact znought y (List.mem_of_getElem? hy)
      · omega
  · rw [List.length_append] at hc
    have vl : ∀ i < N, vec p w a (fun m => (c m + (p - c kept.length * R.getD pv 0 % p) * cf N z m) % p) i = (vec p w a c i + (p - c kept.length * R.getD pv 0 % p) * z.getD i 0) % p := fun i hi => by
      rw [vec_lin, ← zcon i hi]
    have hq : c kept.length * R.getD pv 0 % p < p := Nat.mod_lt _ hpos
    have hqt : (c kept.length * R.getD pv 0 % p) * t % p = c kept.length % p := by
      rw [Nat.mod_mul_mod, Nat.mul_assoc, Nat.mul_mod, ht, Nat.mul_one, Nat.mod_mod]
    generalize c kept.length * R.getD pv 0 % p = q at *
    have zero : ∀ m, (c m + (p - q) * cf N z m) % p % p = 0 := by
      refine K.ind _ (fun m hm => ?_) fun y hy => ?_
      · by_cases e : m = kept.length
        · subst e
          rw [zt]
          refine cancel_mod hp (y := q * t) ?_
          rw [Nat.add_assoc, ← Nat.add_mul, Nat.sub_add_cancel (by omega), Nat.add_mul_mod_self_left, hqt]
        · rw [hc m (by show kept.length + 1 ≤ m; omega), zoff m (by omega), Nat.mul_zero, Nat.zero_mod]
      · obtain ⟨l, hl⟩ := List.mem_iff_getElem?.mp hy
        rw [vl y.1 (K.row l y hl).piv, hv y (List.mem_append_left _ hy), znought y hy, Nat.mul_zero, Nat.zero_mod]
    have q0 : q = 0 := by
      have h1 := vl pv hpv
      rw [vec_zero zero, hv (pv, z) (by simp), zone, Nat.zero_add, Nat.mul_one] at h1
      rcases Nat.eq_zero_or_pos q with h | h
      · exact h
      · rw [Nat.mod_eq_of_lt (by omega)] at h1
        omega
    intro m
    have h2 := zero m
    rw [q0, Nat.sub_zero, Nat.mod_mod, Nat.add_mul_mod_self_left] at h2
    exact h2
end
/-! ### what it finds -/
def entry (p n : Nat) (M : List (List Nat)) (s : List Nat) (i m : Nat) : Nat := ev p n (M.getD m []) (s.getD i 0)
theorem getD_mem_lt {s : List Nat} {i : Nat} (h : i < s.length) : s.getD i 0 ∈ s := by
  rw [List.getD_eq_getElem?_getD, List.getElem?_eq_getElem h]
  exact List.getElem_mem h
section
variable {p n : Nat} {M : List (List Nat)} {s : List Nat} {kept : List (Nat × List Nat)}
theorem no_nought (hp : Pr p) (K : Kept p s.length M.length (entry p n M s) kept) : ∀ i < kept.length, ∀ d, ¬ Nought p n M s i d := by
  intro i hi d hd
  have := K.ind d (fun m hm => hd.off m (by omega)) (fun z hz => ?_) i
  · rw [hd.one] at this
    rcases hp with rfl | rfl | rfl | rfl <;> omega
  · obtain ⟨l, hl⟩ := List.mem_iff_getElem?.mp hz
    exact hd.nought _ (getD_mem_lt (K.row l z hl).piv)
theorem nought_here {R : List Nat} {j : Nat} (ok : RowOk p (s.length + M.length) R) (con : Con p s.length M.length (entry p n M s) R) (one : cf s.length R j = 1) (off : ∀ m, j < m → cf s.length R m = 0)
    (zero : ∀ i < s.length, R.getD i 0 = 0) : Nought p n M s j (cf s.length R) := by
  refine ⟨one, fun m => ok.lt _, off, fun x hx => ?_⟩
  obtain ⟨i, hi, rfl⟩ := List.mem_iff_getElem.mp hx
  have h := con i hi
  rw [zero i hi] at h
  have e : s.getD i 0 = s[i] := by
    rw [List.getD_eq_getElem?_getD, List.getElem?_eq_getElem hi]
    rfl
  unfold vec entry at h
  rw [e] at h
  exact h.symm
/-- the row that a term begins with -/
def rowJ (p n : Nat) (M : List (List Nat)) (s : List Nat) (j : Nat) : List Nat := (s.map fun x => ev p n (M.getD j []) x) ++ (List.range M.length).map fun m => if m = j then 1 else 0
theorem rowJ_len (j : Nat) : (rowJ p n M s j).length = s.length + M.length := by
  unfold rowJ
  rw [List.length_append, List.length_map, List.length_map, List.length_range]
theorem rowJ_lo {j i : Nat} (h : i < s.length) : (rowJ p n M s j).getD i 0 = ev p n (M.getD j []) (s.getD i 0) := by
  have e : s.getD i 0 = s[i] := by
    rw [List.getD_eq_getElem?_getD, List.getElem?_eq_getElem h]
    rfl
  unfold rowJ
  generalize M.getD j [] = m
  rw [e, List.getD_eq_getElem?_getD, List.getElem?_append_left (by rw [List.length_map]; exact h), List.getElem?_map, List.getElem?_eq_getElem h]
  rfl
theorem rowJ_hi {j m : Nat} (h : m < M.length) : (rowJ p n M s j).getD (s.length + m) 0 = if m = j then 1 else 0 := by
  unfold rowJ
  rw [List.getD_eq_getElem?_getD, List.getElem?_append_right (by rw [List.length_map]; omega), List.length_map, Nat.add_sub_cancel_left, List.getElem?_map, List.getElem?_eq_getElem (by rw [List.length_range]; exact h), List.getElem_range]
  rfl
theorem rowJ_ok (hp : Pr p) (j : Nat) : RowOk p (s.length + M.length) (rowJ p n M s j) := by
  refine ⟨rowJ_len j, fun m => ?_⟩
  have h1 : 1 < p := by rcases hp with rfl | rfl | rfl | rfl <;> omega
  by_cases h : m < s.length
  · rw [rowJ_lo h]
    exact ev_lt hp.pos
  · by_cases h2 : m < s.length + M.length
    · obtain ⟨k, rfl⟩ : ∃ k, m = s.length + k := ⟨m - s.length, by omega⟩
      rw [rowJ_hi (by omega)]
      split <;> omega
    · rw [getD_out (by rw [rowJ_len]; omega)]
      exact hp.pos
theorem rowJ_cf {j : Nat} (m : Nat) : cf s.length (rowJ p n M s j) m = if m = j ∧ j < M.length then 1 else 0 := by
  unfold cf
  by_cases h : m < M.length
  · rw [rowJ_hi h]
    by_cases e : m = j
    · rw [if_pos e, if_pos ⟨e, by omega⟩]
    · rw [if_neg e, if_neg fun z => e z.1]
  · rw [getD_out (by rw [rowJ_len]; omega), if_neg (by omega)]
theorem rowJ_con (hp : Pr p) {j : Nat} (hj : j < M.length) : Con p s.length M.length (entry p n M s) (rowJ p n M s j) := by
  intro i hi
  rw [rowJ_lo hi]
  unfold vec
  rw [sumTo_one (i := j) (fun m _ hm => by rw [rowJ_cf, if_neg fun z => hm z.1, Nat.mul_zero]) hj, rowJ_cf, if_pos ⟨rfl, hj⟩, Nat.mul_one]
  unfold entry
  rw [Nat.mod_eq_of_lt (ev_lt hp.pos)]
end
end KM
namespace KM
open Kzt1 (coords total lexBefore before monos)
/-! ### the terms of low degree, in their order -/
def nI (l : List Nat) : List Int := l.map fun (y : Nat) => (y : Int)
def rankI (e : List Nat) : List Int := nI (total e :: e)
theorem nI_cons (x : Nat) (l : List Nat) : nI (x :: l) = (x : Int) :: nI l := rfl
theorem lt_lex : ∀ a b : List Nat, a.length = b.length → (nI a < nI b ↔ lexBefore a b = true)
  | [], [], _ => by simp [nI, lexBefore]
  | [], _ :: _, h => by simp at h
  | _ :: _, [], h => by simp at h
  | x :: a, y :: b, h => by
    rw [nI_cons, nI_cons, List.cons_lt_cons_iff, lt_lex a b (by simpa using h)]
    show _ ↔ (decide (x < y) || (x == y && lexBefore a b)) = true
    simp only [Bool.or_eq_true, decide_eq_true_eq, Bool.and_eq_true, beq_iff_eq, Int.ofNat_lt, Int.natCast_inj]
theorem rank_lt {a b : List Nat} (h : a.length = b.length) : rankI a < rankI b ↔ before a b = true := by
  unfold rankI
  rw [nI_cons, nI_cons, List.cons_lt_cons_iff, lt_lex a b h]
  unfold before
  simp only [Bool.or_eq_true, decide_eq_true_eq, Bool.and_eq_true, beq_iff_eq, Int.ofNat_lt, Int.natCast_inj]
theorem coords_lt {p n x : Nat} (hp : 0 < p) : ∀ c ∈ coords p n x, c < p := by
  intro c hc
  unfold coords at hc
  obtain ⟨i, _, rfl⟩ := List.mem_map.mp hc
  exact Nat.mod_lt _ hp
/-- the terms ahead of the sort -/
def lowRaw (p n : Nat) : List (List Nat) := ((List.range (p ^ n)).map (coords p n)).filter fun e => decide (total e < p)
theorem lowRaw_nodup (p n : Nat) : (lowRaw p n).Nodup := by
  unfold lowRaw
  refine List.Pairwise.filter _ ?_
  rw [List.pairwise_map]
  refine List.Pairwise.imp_of_mem ?_ (List.nodup_range (n := p ^ n))
  intro a b ha hb hne e
  apply hne
  rw [← hor_coords p n a (List.mem_range.mp ha), e, hor_coords p n b (List.mem_range.mp hb)]
theorem lowRaw_mem {p n : Nat} (hp : 0 < p) {e : List Nat} : e ∈ lowRaw p n ↔ e ∈ monos p n (p - 1) := by
  unfold lowRaw
  rw [List.mem_filter, List.mem_map, monos_mem, decide_eq_true_eq]
  constructor
  · rintro ⟨⟨x, _, rfl⟩, h⟩
    exact ⟨⟨coords_length p n x, coords_lt hp⟩, by omega⟩
  · rintro ⟨⟨h1, h2⟩, h3⟩
    subst h1
    exact ⟨⟨hor p e, List.mem_range.mpr (hor_lt p e h2), coords_hor p e h2⟩, by omega⟩
theorem low_eq {p n : Nat} (hp : 0 < p) {ys : List (List Nat)} (hperm : ys.Perm (lowRaw p n)) (hs : ys.Pairwise fun a b => ¬ rankI b < rankI a) : ys = monos p n (p - 1) := by
  have hm : ∀ e, e ∈ ys ↔ e ∈ monos p n (p - 1) := fun e => by rw [hperm.mem_iff, lowRaw_mem hp]
  refine sorted_eq ?_ (monos_sorted p n (p - 1)) hm
  have nd : ys.Nodup := hperm.nodup_iff.mpr (lowRaw_nodup p n)
  unfold Sorted
  refine (List.Pairwise.and hs nd).imp_of_mem ?_
  rintro a b ha hb ⟨h1, h2⟩
  have la := (monos_mem.mp ((hm a).mp ha)).1.1
  have lb := (monos_mem.mp ((hm b).mp hb)).1.1
  have hl : b.length = a.length := by omega
  refine before_tri hl (fun e => h2 e.symm) ?_
  cases e : before b a with
  | false => rfl
  | true => exact absurd ((rank_lt hl).mpr e) h1
theorem sum_nI : ∀ e : List Nat, (nI e).sum = (total e : Int)
  | [] => rfl
  | x :: e => by
    rw [nI_cons, List.sum_cons, sum_nI e, total_cons]
    omega
theorem monos_len (p n d : Nat) : (monos p n d).length ≤ p ^ n := by
  have key : ∀ l : List (List Nat), (l.foldr Kzt1.insertE []).length = l.length := by
    intro l
    induction l with
    | nil => rfl
    | cons e l ih =>
      have ins : ∀ m : List (List Nat), (Kzt1.insertE e m).length = m.length + 1 := by
        intro m
        induction m with
        | nil => rfl
        | cons f m ihm =>
          unfold Kzt1.insertE
          split
          · rfl
          · rw [List.length_cons, ihm, List.length_cons]
      rw [List.foldr_cons, ins, ih, List.length_cons]
  have hex : ∀ n : Nat, (Kzt1.exps p n).length = p ^ n := by
    intro n
    induction n with
    | zero => rfl
    | succ n ih =>
      unfold Kzt1.exps
      rw [List.length_flatMap]
      simp only [List.length_map, ih]
      rw [List.map_const', List.sum_replicate_nat, List.length_range, Nat.pow_succ, Nat.mul_comm]
  unfold monos
  rw [key, ← hex n]
  exact List.length_filter_le _ _
end KM
namespace KM
open Kzt1 (Term total before okPoly degree readPoly written)
/-! ### a row's terms, one behind another -/
def rowsOf (k m : Nat) (l : List Nat) : List (List Nat) := (List.range m).map fun i => (l.drop (i * (k + 1))).take (k + 1)
def tRow (t : Term) : List Nat := t.c :: t.e
theorem rowsOf_cuts (k m : Nat) (l : List Nat) (h : l.length = m * (k + 1)) : rowsOf k m l = (cuts k m l).map tRow := by
  apply List.ext_getElem?
  intro i
  unfold rowsOf
  by_cases hi : i < m
  · have hlt : i * (k + 1) + (k + 1) ≤ l.length := by
      have : (i + 1) * (k + 1) ≤ m * (k + 1) := Nat.mul_le_mul_right _ hi
      rw [Nat.succ_mul] at this
      omega
    rw [List.getElem?_map, List.getElem?_map, cuts_get k m i l hi, List.getElem?_eq_getElem (by simpa using hi)]
    simp only [Option.map_some, List.getElem_range]
    congr 1
    unfold tRow
    have e := List.drop_eq_getElem_cons (i := i * (k + 1)) (l := l) (by omega)
    rw [e]
    rfl
  · rw [List.getElem?_eq_none (by simp; omega), List.getElem?_eq_none (by rw [List.length_map, cuts_length]; omega)]
theorem cuts_e (k m : Nat) (l : List Nat) (h : l.length = m * (k + 1)) : ∀ t ∈ cuts k m l, t.e.length = k := by
  intro t ht
  obtain ⟨i, hi⟩ := List.mem_iff_getElem?.mp ht
  have him : i < m := by
    have := (List.getElem?_eq_some_iff.mp hi).1
    rwa [cuts_length] at this
  rw [cuts_get k m i l him] at hi
  cases hi
  have : (i + 1) * (k + 1) ≤ m * (k + 1) := Nat.mul_le_mul_right _ him
  rw [Nat.succ_mul] at this
  show ((l.drop (i * (k + 1) + 1)).take k).length = k
  rw [List.length_take, List.length_drop]
  omega
/-! ### read from the left -/
def okT (p : Nat) (t : List Nat) : Bool := decide (1 ≤ t.headD 0) && decide (t.headD 0 < p) && t.tail.all fun x => decide (x ≤ 12)
def okUp (p : Nat) : List Int → List (List Nat) → Bool
  | _, [] => true
  | last, t :: f => okT p t && decide (last < rankI t.tail) && okUp p (rankI t.tail) f
theorem okT_term {p n : Nat} {t : Term} (h : t.e.length = n) : okT p (tRow t) = okTerm p n t := by
  unfold okT okTerm tRow
  rw [h]
  simp
theorem okUp_from {p n : Nat} : ∀ (f : List Term) (u : Term), u.e.length = n → (∀ t ∈ f, t.e.length = n) → okUp p (rankI u.e) (f.map tRow) = (f.all (okTerm p n) && upward (u :: f))
  | [], _, _, _ => rfl
  | t :: f, u, hu, h => by
    have ht := h t (by simp)
    have ih := okUp_from (p := p) f t ht fun x hx => h x (by simp [hx])
    show (okT p (tRow t) && decide (rankI u.e < rankI t.e) && okUp p (rankI t.e) (f.map tRow)) = (okTerm p n t && f.all (okTerm p n) && (before u.e t.e && upward (t :: f)))
    rw [ih, okT_term ht]
    have e : decide (rankI u.e < rankI t.e) = before u.e t.e := by
      rw [Bool.eq_iff_iff, decide_eq_true_eq]
      exact rank_lt (by omega)
    rw [e]
    cases okTerm p n t <;> cases f.all (okTerm p n) <;> cases before u.e t.e <;> rfl
theorem okUp_all {p n : Nat} (f : List Term) (h : ∀ t ∈ f, t.e.length = n) : okUp p [] (f.map tRow) = (f.all (okTerm p n) && upward f) := by
  cases f with
  | nil => rfl
  | cons t f =>
    have ht := h t (by simp)
    show (okT p (tRow t) && decide ([] < rankI t.e) && okUp p (rankI t.e) (f.map tRow)) = (okTerm p n t && f.all (okTerm p n) && upward (t :: f))
    rw [okUp_from f t ht fun x hx => h x (by simp [hx]), okT_term ht]
    have e : decide (([] : List Int) < rankI t.e) = true := decide_eq_true (by unfold rankI; rw [nI_cons]; exact List.nil_lt_cons _ _)
    rw [e]
    cases okTerm p n t <;> cases f.all (okTerm p n) <;> rfl
/-- is it a polynomial? -/
def okRow (p n : Nat) (l : List Nat) : Bool := decide (l.length % (n + 1) = 0) && okUp p [] (rowsOf n (l.length / (n + 1)) l)
theorem div_len {n : Nat} {l : List Nat} (h : l.length % (n + 1) = 0) : l.length = l.length / (n + 1) * (n + 1) := by
  have := Nat.div_add_mod l.length (n + 1)
  rw [h, Nat.add_zero, Nat.mul_comm] at this
  exact this.symm
theorem okRow_read (p n : Nat) (l : List Nat) : readPoly p n l = if okRow p n l = true then some (cuts n (l.length / (n + 1)) l) else none := by
  rw [readPoly_eq]
  unfold okRow
  by_cases h : l.length % (n + 1) = 0
  · have hl := div_len h
    rw [rowsOf_cuts n _ l hl, okUp_all _ (cuts_e n _ l hl), decide_eq_true h, Bool.true_and]
    by_cases c : ((cuts n (l.length / (n + 1)) l).all (okTerm p n) && upward (cuts n (l.length / (n + 1)) l)) = true
    · rw [if_pos ⟨h, c⟩, if_pos c]
    · rw [if_neg fun z => c z.2, if_neg c]
  · rw [if_neg fun z => h z.1, decide_eq_false h, Bool.false_and, if_neg Bool.false_ne_true]
/-! ### the highest terms -/
def topDeg (ts : List (List Nat)) : Nat := (ts.map fun t => total t.tail).foldl max 0
def hiT (ts : List (List Nat)) : List (List Nat) := ts.filter fun t => total t.tail == topDeg ts
theorem fold_max_spec : ∀ (l : List Nat) (a : Nat), (a ≤ l.foldl max a ∧ ∀ b ∈ l, b ≤ l.foldl max a) ∧ (l.foldl max a = a ∨ l.foldl max a ∈ l)
  | [], a => by simp
  | b :: l, a => by
    rw [List.foldl_cons]
    obtain ⟨⟨h1, h2⟩, h3⟩ := fold_max_spec l (max a b)
    refine ⟨⟨by omega, fun c hc => ?_⟩, ?_⟩
    · rcases List.mem_cons.mp hc with rfl | hc
      · omega
      · exact h2 c hc
    · rcases h3 with h3 | h3
      · rw [h3]
        rcases Nat.le_total a b with q | q
        · right
          rw [Nat.max_eq_right q]
          simp
        · left
          exact Nat.max_eq_left q
      · right
        simp [h3]
theorem topDeg_eq {ts : List (List Nat)} {m : Int} (h : (nI (ts.map fun t => total t.tail) = [] ∧ m = 0) ∨ (m ∈ nI (ts.map fun t => total t.tail) ∧ ∀ y, y ∈ nI (ts.map fun t => total t.tail) → y ≤ m)) : m = (topDeg ts : Int) := by
  unfold topDeg
  generalize (ts.map fun t => total t.tail) = l at h ⊢
  rcases h with ⟨h1, rfl⟩ | ⟨h1, h2⟩
  · cases l with
    | nil => rfl
    | cons x l => cases h1
  · unfold nI at h1 h2
    obtain ⟨x, hx, rfl⟩ := List.mem_map.mp h1
    obtain ⟨⟨_, k2⟩, k3⟩ := fold_max_spec l 0
    have a := k2 x hx
    rcases k3 with k3 | k3
    · omega
    · have b := h2 _ (List.mem_map.mpr ⟨_, k3, rfl⟩)
      omega
theorem hiT_top (f : List Term) : hiT (f.map tRow) = (Kzt2.top f).map tRow := by
  unfold hiT Kzt2.top
  have e : topDeg (f.map tRow) = degree f := by
    unfold topDeg degree
    rw [List.map_map]
    rfl
  rw [e, List.filter_map]
  rfl
theorem written_rows (f : List Term) : written f = ((f.map tRow).flatten) := by
  unfold written
  rw [List.flatMap_def]
  rfl
end KM
namespace KM
open Kzt1 (Term powMod value coords total monos)
/-! ### a term's value, turn by turn -/
def itv (p a v : Nat) : Nat → Nat
  | 0 => v
  | k + 1 => itv p a v k * a % p
theorem itv_pow {p a v : Nat} (h1 : 1 < p) (hv : v < p) : ∀ k : Nat, itv p a v k = v * powMod p a k % p
  | 0 => by
    show v = v * (1 % p) % p
    rw [Nat.mod_eq_of_lt h1, Nat.mul_one, Nat.mod_eq_of_lt hv]
  | k + 1 => by
    show itv p a v k * a % p = v * (powMod p a k * a % p) % p
    rw [itv_pow h1 hv k, Nat.mod_mul_mod, Nat.mul_mod_mod, Nat.mul_assoc]
def fvTo (p c : Nat) (l : List (Nat × Nat)) : Nat := l.foldl (fun v y => v * powMod p y.2 y.1 % p) c
theorem fvTo_lt {p c : Nat} (hc : c < p) : ∀ l : List (Nat × Nat), fvTo p c l < p
  | [] => hc
  | y :: l => fvTo_lt (Nat.mod_lt _ (by omega)) l
theorem fvTo_snoc {p c : Nat} {l : List (Nat × Nat)} {i : Nat} {y : Nat × Nat} (h : l[i]? = some y) : fvTo p c (l.take (i + 1)) = fvTo p c (l.take i) * powMod p y.2 y.1 % p := by
  unfold fvTo
  rw [List.take_add_one, h, List.foldl_append]
  rfl
theorem fv_fvTo (p : Nat) (x : List Nat) (t : Term) : fv p x t = fvTo p t.c (t.e.zip x) := rfl
theorem ev_fv {p n : Nat} (h1 : 1 < p) (e : List Nat) (x : Nat) : ev p n e x = fv p (coords p n x) ⟨1, e⟩ := by
  unfold ev
  rw [value_one, Nat.mod_eq_of_lt]
  exact fvTo_lt h1 _
theorem value_sum (p : Nat) (f : List Term) (x : List Nat) : value p f x = (f.map (fv p x)).sum % p := by
  have key : ∀ (l : List Nat) (a : Nat), l.foldl (· + ·) a = a + l.sum := by
    intro l
    induction l with
    | nil => intro a; simp
    | cons b l ih =>
      intro a
      rw [List.foldl_cons, ih, List.sum_cons]
      omega
  unfold value
  rw [key, Nat.zero_add]
  rfl
/-! ### the first place that isn't 0 -/
def places (f : Nat → Bool) (k : Nat) : List Nat := (List.range k).filter f
theorem first_place {f : Nat → Bool} {k i : Nat} (hi : i < k) (h : f i = true) (hl : ∀ m < i, f m = false) : (places f k)[0]? = some i := by
  unfold places
  obtain ⟨d, rfl⟩ : ∃ d, k = (i + 1) + d := ⟨k - (i + 1), by omega⟩
  rw [List.range_add, List.filter_append, List.range_succ, List.filter_append]
  have e : (List.range i).filter f = [] := by
    rw [List.filter_eq_nil_iff]
    intro m hm
    rw [hl m (List.mem_range.mp hm)]
    exact Bool.false_ne_true
  rw [e, List.filter_cons_of_pos h]
  rfl
theorem least_place {f : Nat → Bool} : ∀ {k : Nat}, (∃ i < k, f i = true) → ∃ i < k, f i = true ∧ ∀ m < i, f m = false
  | 0, h => by
    obtain ⟨i, hi, _⟩ := h
    omega
  | k + 1, h => by
    by_cases q : ∃ i < k, f i = true
    · obtain ⟨i, hi, h1, h2⟩ := least_place q
      exact ⟨i, by omega, h1, h2⟩
    · obtain ⟨i, hi, hf⟩ := h
      have no : ∀ m < k, f m = false := fun m hm => by
        cases e : f m with
        | false => rfl
        | true => exact absurd ⟨m, hm, e⟩ q
      have e : i = k := by
        rcases Nat.lt_or_ge i k with c | c
        · rw [no i c] at hf
          cases hf
        · omega
      subst e
      exact ⟨i, hi, hf, no⟩
/-! ### the polynomial's rows -/
theorem poly_rows (M : List (List Nat)) (fs : List Nat) (k : Nat) (hk : k ≤ M.length) (hl : M.length ≤ fs.length) : ((((fs.zip M).take k).filter fun y => y.1 != 0).map fun y => y.1 :: y.2) = (polyOf (M.take k) fun m => fs.getD m 0).map tRow := by
  induction k with
  | zero => simp [polyOf]
  | succ k ih =>
    have h1 : k < M.length := by omega
    have h2 : k < fs.length := by omega
    have e : (fs.zip M)[k]? = some (fs[k], M[k]) := List.getElem?_zip_eq_some.mpr ⟨List.getElem?_eq_getElem h2, List.getElem?_eq_getElem h1⟩
    have e2 : polyOf (M.take (k + 1)) (fun m => fs.getD m 0) = polyOf (M.take k) (fun m => fs.getD m 0) ++ ([(⟨fs.getD k 0, M[k]⟩ : Term)].filter fun t => t.c != 0) := by
      unfold polyOf
      rw [List.take_succ_eq_append_getElem h1, List.zipIdx_append, List.map_append, List.filter_append]
      congr 1
      rw [List.length_take, Nat.min_eq_left (by omega), Nat.zero_add]
      rfl
    have e3 : fs.getD k 0 = fs[k] := by
      rw [List.getD_eq_getElem?_getD, List.getElem?_eq_getElem h2]
      rfl
    rw [List.take_add_one, e, e2, List.map_append, ← ih (by omega), e3]
    simp only [Option.toList_some, List.filter_append, List.map_append]
    congr 1
    by_cases z : fs[k] = 0
    · simp [z]
    · simp [z, tRow]
theorem polyOf_whole {M : List (List Nat)} {c : Nat → Nat} {j : Nat} (hj : j < M.length) (off : ∀ m, j < m → c m = 0) : polyOf M c = polyOf (M.take (j + 1)) c := by
  have := polyOf_take (M := M) (c := c) (j := j) (k := M.length) hj hj off
  rwa [List.take_length] at this
theorem sub_mod {p m t z : Nat} (ht : t ≤ p) : ((m : Int) - (t : Int) * (z : Int)) % (p : Int) = (((m + (p - t) * z) % p : Nat) : Int) := by
  rw [Int.natCast_emod, Int.natCast_add, Int.natCast_mul, Int.ofNat_sub ht]
  rw [show (m : Int) + ((p : Int) - (t : Int)) * (z : Int) = ((m : Int) - (t : Int) * (z : Int)) + (p : Int) * (z : Int) by rw [Int.sub_mul]; omega]
  rw [Int.add_mul_emod_self_left]
end KM
set_option Elab.async false
set_option linter.all false
set_option maxRecDepth 100000
set_option maxHeartbeats 2000000
namespace KM
open PySem PySem.Spec PyProof.Rows L2

/-! ### lists of ints as keys -/
abbrev encR (ns : List Int) : PyData := .list (ns.map .int)
theorem reads_ints {h : Heap} : ∀ {ns : List Int} {us : List Value}, Vals (ns.map V.int) us → ReadsAll h us (ns.map .int) []
  | [], _, r => by
    cases r
    exact .nil
  | n :: ns, _, r => by
    cases r with
    | cons r1 r2 =>
      obtain ⟨t, rfl⟩ := r1
      exact .cons (as := []) (bs := []) (.int n t) (reads_ints r2)
theorem reads_plain {h : Heap} {a : Addr} {its : List Value} {ns : List Int} (p : PlainL h a its.toArray) (r : Vals (ns.map V.int) its) : Reads h (.ref a) (encR ns) [a] := by
  obtain ⟨o, n, e, c, _, d⟩ := p
  exact .list e c d (by simpa using reads_ints r)
theorem reads_lst {P : Program} {w : World} {H : Hp} {h : Heap} {a : Addr} {ns : List Int} (o : ObjOk P w H h a (.lst (ns.map V.int))) : Reads h (.ref a) (encR ns) [a] := by
  obtain ⟨_, its, n, r, e⟩ := o
  exact reads_plain ⟨_, n, e, rfl, rfl, rfl⟩ r
theorem encR_alike (a b : List Int) : PySem.W.alike (encR a) (encR b) = true := by
  unfold PySem.W.alike
  exact PySem.W.alike_ints a b
theorem encR_depth (a : List Int) : (encR a).depth ≤ 1 := by
  unfold PyData.depth
  rw [PySem.W.depth_ints]
  exact Nat.le_refl _
theorem each_vals : ∀ {out : List Value} {bs : List V}, PySem.W.EachIs (fun v x => RelV x v) out bs → Vals bs out
  | _, _, .nil => .nil
  | _, _, .cons h t => .cons h (each_vals t)
theorem vals_each : ∀ {bs : List V} {out : List Value}, Vals bs out → PySem.W.EachIs (fun v x => RelV x v) out bs
  | _, _, .nil => .nil
  | _, _, .cons h t => .cons h (vals_each t)

/-! ### xs < ys, lists of ints -/
def rLtL (K : PySem.W.Frag) : R2 := fun x y H Q => ∃ (a b : Addr) (ns ms : List Int), x = .ref a ∧ y = .ref b ∧ SqL K H a (ns.map V.int) ∧ SqL K H b (ms.map V.int) ∧ Q (.bl (decide (ns < ms))) H
theorem op_ltL {X : Cx} (hu : X.A.units + 64 < cLine) : OpR X (compareOp .Lt) (rLtL X.K) := by
  intro pins s σ H x y v u Q I rx ry h
  obtain ⟨a, b, ns, ms, rfl, rfl, ha, hb, q⟩ := h
  cases rx
  cases ry
  obtain ⟨i1, r1, p1, _⟩ := I.list ha
  obtain ⟨i2, r2, p2, _⟩ := I.list hb
  have hd := encR_depth ns
  have R := PySem.W.rcLt_alike (encR ns) (encR ms) X.A s _ _ _ _ (reads_plain p1 r1) (reads_plain p2 r2) (encR_alike ns ms) (fun z => nomatch z) (by omega)
  have e : PySem.W.dataLt (encR ns) (encR ms) = decide (ns < ms) := by
    rw [PySem.W.dataLt_list]
    exact PySem.W.dataLt_ints ns ms
  rw [e] at R
  exact R X.prog X.w X.xe (EP X pins σ Q) ⟨.bl _, H, I, rfl, q⟩
end KM
set_option Elab.async false
set_option linter.all false
set_option maxRecDepth 100000
set_option maxHeartbeats 2000000
namespace KM
open PySem PySem.Spec PyProof.Rows L2
/-! ### sorted(xs, key=f): f a def of one's own that gives a new list of ints -/
def rSortK (K : PySem.W.Frag) (f : Addr) (sp : Sp) : List V → List V → Hp → VK → Prop := fun vs zs H Q =>
  ∃ (a : Addr) (xs : List V) (key : V → List Int), vs = [V.ref a] ∧ zs = [V.ref f] ∧ SqL K H a xs ∧
    (∀ x ∈ xs, ∀ H1 : Hp, Same H H1 → ∀ W : VK, (∀ (H2 : Hp) (q : Addr), Same H1 H2 → H1 q = none → H2 q = some (.lst ((key x).map V.int)) → W (.ref q) H2) → sp [x] H1 W E0) ∧
    ∀ (H' : Hp) (p : Addr), Same H H' → H p = none → H' p = some (.lst (xs.mergeSort fun x y => decide (key x ≤ key y))) → Q (.ref p) H'

/-- without the object at k -/
def drop1 (H : Hp) (k : Addr) : Hp := fun b => if b = k then none else H b
theorem drop1_ne {H : Hp} {k b : Addr} (h : b ≠ k) : drop1 H k b = H b := if_neg h
theorem drop1_at {H : Hp} {k : Addr} : drop1 H k k = none := if_pos rfl

section
variable {X : Cx} {f : Addr} {fd : FuncData} {ps : List Str} {sp : Sp} {lv : Nat} {pins : List (Addr × Obj)} {σ : L2.St}

/-- the end: the key store kS is forgotten, L holds what is sorted -/
theorem sort_done {Hi : Hp} {s' : Shared} {L kS : Addr} {o : Obj} {ks ys : List V} {out : List Value} {h' : Heap} {tk c : Nat} (I : Inv X pins σ Hi s') (hL : Hi L = some (.frz o (.lst []))) (hk : Hi kS = some (.lst ks))
    (hn : ∀ o' u', X.H_0 L ≠ some (.frz o' u')) (hs0 : X.s_0.heap.objs.size ≤ kS) (kp : PySem.W.KeepsBut L (PySem.W.hideAll s'.heap [kS]) h') (hz : ys.length ≤ sizeLine) (ro : Vals ys out)
    (ho : h'.get? L = some (seqObj "list" out.toArray c)) : Inv X pins σ (upd (drop1 (upd Hi L (.lst [])) kS) L (.lst ys)) { s' with heap := h', toks := tk } := by
  have hLk : L ≠ kS := fun e => by
    rw [e, hk] at hL
    cases hL
  have I1 := I.unlock hL hn
  have k1 : (upd Hi L (.lst [])) kS = some (.lst ks) := by
    rw [upd_ne hLk.symm]
    exact hk
  have l1 : (upd Hi L (.lst [])) L = some (.lst []) := upd_same
  generalize upd Hi L (.lst []) = H1 at I1 k1 l1
  have neT : ∀ b u, H1 b = some u → (∀ xs, u ≠ .lst xs) → b ≠ kS ∧ b ≠ L := fun b u e hu => ⟨fun z => by
    rw [z, k1] at e
    exact hu ks (Option.some.inj e).symm, fun z => by
    rw [z, l1] at e
    exact hu [] (Option.some.inj e).symm⟩
  have neN : ∀ b, H1 b = none → b ≠ kS ∧ b ≠ L := fun b e => by
    refine ⟨fun z => ?_, fun z => ?_⟩
    · rw [z, k1] at e
      cases e
    · rw [z, l1] at e
      cases e
  have keep : ∀ b u, b ≠ kS → b ≠ L → s'.heap.get? b = some u → h'.get? b = some u := fun b u n1 n2 e => kp b u n2 (PySem.W.hideAll_get [kS] e (by simpa using n1))
  have at' : ∀ b u, H1 b = some u → b ≠ kS → b ≠ L → upd (drop1 H1 kS) L (.lst ys) b = some u := fun b u e n1 n2 => by
    rw [upd_ne n2, drop1_ne n1]
    exact e
  refine I1.step (g' := s'.gens) (d' := s'.drawn) (t' := tk) (ch := [kS]) (fun b hb => ?_) (fun b u _ _ hc e n => ?_) (fun b u _ _ hc e n => ⟨u.slots, ?_⟩) (fun b u hc e n => ?_) (fun b u hc e => ?_) (fun b xs e => ?_) (fun b u x e => ?_) (fun b x e => ⟨#[], ?_⟩) (fun m hm => ?_) ?_ I1.bare
  · obtain rfl : b = kS := List.mem_singleton.mp hb
    refine ⟨.inr hs0, fun z => ?_, fun x c e z => ?_, fun p hp z => ?_⟩
    · have := I1.free
      rw [← z, k1] at this
      cases this
    · have := I1.freeC x c e
      rw [z, k1] at this
      cases this
    · have := (I1.pin p hp).2.1
      rw [z, k1] at this
      cases this
  · exact keep b u (neN b n).1 (neN b n).2 e
  · exact keep b u (neN b n).1 (neN b n).2 e
  · rw [upd_ne (neN b n).2, drop1_ne (neN b n).1]
    exact n
  · by_cases z : b = L
    · subst z
      exact ⟨_, ho⟩
    · exact ⟨u, keep b u (by simpa using hc) z e⟩
  · exact at' b _ e (neT b _ e (fun _ z => nomatch z)).1 (neT b _ e (fun _ z => nomatch z)).2
  · exact at' b _ e (neT b _ e (fun _ z => nomatch z)).1 (neT b _ e (fun _ z => nomatch z)).2
  · rw [at' b _ e (neT b _ e (fun _ z => nomatch z)).1 (neT b _ e (fun _ z => nomatch z)).2]
    simp
  · obtain ⟨o', es, ep, e, r⟩ := hm
    exact ⟨o', es, ep, keep _ _ (neN _ I1.free).1 (neN _ I1.free).2 e, r⟩
  · have hd : HOk X.prog X.w (drop1 H1 kS) (PySem.W.hideAll s'.heap [kS]) := fun b u e => by
      have hb : b ≠ kS := fun z => by
        rw [z, drop1_at] at e
        cases e
      rw [drop1_ne hb] at e
      refine (I1.hok b u e).stay (fun d v hc q => PySem.W.hideAll_get [kS] q ?_) (fun d q => ?_) fun d xs q => ?_
      · rcases hc with rfl | hc
        · simpa using hb
        · simpa using (neT d _ hc (fun _ z => nomatch z)).1
      · rw [drop1_ne (neT d _ q (fun _ z => nomatch z)).1]
        exact q
      · rw [drop1_ne (neT d _ q (fun _ z => nomatch z)).1]
        exact q
    refine hd.write (x := L) (e := L) ?_ (.inl rfl) (fun b u hb q => kp b u hb q) ⟨_, ho⟩ ⟨hz, out, c, ro, ho⟩
    rw [drop1_ne hLk, l1]
    trivial

/-- the keys that are made so far -/
def Keyed (X : Cx) (pins : List (Addr × Obj)) (σ : L2.St) (H : Hp) (L kS : Addr) (o : Obj) (xs : List V) (key : V → List Int) (i : Nat) (s' : Shared) : Prop :=
  ∃ (Hi : Hp) (ks : List V), Inv X pins σ Hi s' ∧ Same H Hi ∧ Hi L = some (.frz o (.lst [])) ∧ Hi kS = some (.lst ks) ∧ ks.length = i ∧
    ∀ j x, j < i → xs[j]? = some x → ∃ q, ks[j]? = some (.ref q) ∧ q ≠ kS ∧ Hi q = some (.lst ((key x).map V.int))

theorem cr_sortK (F : FnOk X.prog X.w X.K X.mg X.base CX0 lv f fd ps sp) (hr : Room (lv + 1) X.A) (hb : Binds X.K fd ps []) :
    CallRK X (.builtin "sorted") [Str.ofString "key"] (rSortK X.K f sp) := by
  intro pins s σ H vs zs us ws Q I r rz h
  obtain ⟨a, xs, key, rfl, rfl, hs, hsp, q⟩ := h
  obtain rfl := Vals.ref1 r
  obtain ⟨w1, rfl, e1⟩ := vals1 rz
  obtain rfl : w1 = Value.ref f := e1
  obtain ⟨its, rv, hl, hz⟩ := I.list hs
  have hlen : its.length = xs.length := rv.length.symm
  have hz' : its.length ≤ sizeLine := by omega
  show wpAny _ _ (call (.builtin "sorted") [.ref a] [(Str.ofString "key", .ref f)]) _ _ _
  refine PySem.W.sorted_of_sort (vs := its) hl.isList hz' (ksk_s1 _ _) (fun _ => ksk_l1 _ _) fun E' => ?_
  rw [ksk_t1]
  have ho := PySem.W.copyHeap_at s.heap its
  have hold : ∀ b u, s.heap.get? b = some u → (PySem.W.copyHeap s.heap its).get? b = some u := fun b u e => PySem.W.copyHeap_old e
  generalize PySem.W.copyHeap s.heap its = h1 at ho hold
  generalize hLd : s.heap.objs.size + 1 = L at ho ⊢
  have hLs : s.heap.objs.size ≤ L := by omega
  have hL1 : L < h1.objs.size := Heap.lt_size ho
  obtain ⟨e1, ho1⟩ : ∃ e1, (h1.update L (Obj.mapSeq fun _ => (#[] : Array Value))).get? L = some (seqObj "list" #[] e1) := ⟨_, get?_update_seq ho fun _ => #[]⟩
  have hold2 : ∀ b u, s.heap.get? b = some u → (h1.update L (Obj.mapSeq fun _ => (#[] : Array Value))).get? b = some u := fun b u e => by
    rw [Heap.get?_update_ne _ _ _ _ (Nat.ne_of_lt (Nat.lt_of_lt_of_le (Heap.lt_size e) hLs))]
    exact hold b u e
  have hsz2 : (h1.update L (Obj.mapSeq fun _ => (#[] : Array Value))).objs.size = h1.objs.size := Heap.size_update ..
  unfold ksk_tree
  refine wpAny_bind (listItems_at (s := { s with heap := h1 }) ho rfl ?_)
  refine wpAny_bind (listUpdate_at (s := { s with heap := h1 }) ho rfl ?_ (by rw [List.size_toArray]; exact hz') (Nat.zero_le _))
  generalize h1.update L (Obj.mapSeq fun _ => (#[] : Array Value)) = h2 at ho1 hold2 hsz2 ⊢
  refine wpAny_bind (seqEpoch_at (s := { s with heap := h2 }) ho1 rfl ?_)
  refine wpAny_bind (wpAny_newTuple ?_ (by show its.length ≤ _; exact hz'))
  refine wpAny_bind (wpAny_newList ?_ (Nat.zero_le _))
  refine wpAny_holding ?_
  have I0 : L2.Inv X pins σ (upd H L (.lst [])) { s with heap := h2.push (seqObj "tuple" its.toArray 0) } :=
    I.laid (t' := s.toks) (fun b u e => Heap.get?_push_of_some _ (hold2 b u e)) hLs ⟨Nat.zero_le _, [], e1, .nil, Heap.get?_push_of_some _ ho1⟩
  have hn := I0.nofrz (d := L) upd_same trivial
  obtain ⟨o, I1⟩ := I0.lock (d := L) upd_same trivial
  have eo : o = seqObj "list" #[] e1 := by
    have e := (I1.hok L _ upd_same).1
    rw [Heap.get?_push_of_some _ ho1] at e
    exact (Option.some.inj e).symm
  rw [upd_upd] at I1
  have hkf := I1.hok.fresh (Nat.le_refl _)
  have I2 := I1.laid (t' := s.toks) (a := (h2.push (seqObj "tuple" its.toArray 0)).objs.size) (o := .lst []) (h' := (h2.push (seqObj "tuple" its.toArray 0)).push (seqObj "list" #[] 0)) (fun b u e => Heap.get?_push_of_some _ e) (Nat.le_refl _) ⟨Nat.zero_le _, [], 0, .nil, Heap.get?_push_size _ rfl⟩
  have hks : s.heap.objs.size ≤ (h2.push (seqObj "tuple" its.toArray 0)).objs.size := by
    rw [size_push', hsz2]
    exact Nat.le_trans hLs (Nat.le_succ_of_le (Nat.le_of_lt hL1))
  show wpAny _ _ _ _ _ { s with heap := (h2.push (seqObj "tuple" its.toArray 0)).push (seqObj "list" #[] 0) }
  generalize (h2.push (seqObj "tuple" its.toArray 0)).objs.size = kS at I2 hks hkf ⊢
  generalize (h2.push (seqObj "tuple" its.toArray 0)).push (seqObj "list" #[] 0) = h4 at I2 ⊢
  have hkL : L ≠ kS := fun e => by
    rw [← e, upd_same] at hkf
    cases hkf
  have hHk : H kS = none := I.hok.fresh hks
  have hHL : H L = none := I.hok.fresh hLs
  unfold ksk_rest
  refine wpAny_bind (wpAny_rule ?_)
  rw [List.forIn_toArray]
  refine wpAny_bind (ksk_fold (Keyed X pins σ H L kS o xs key) its 0 _ ⟨_, [], I2, fun b u e => ?_, ?_, upd_same, rfl, fun j x h => absurd h (Nat.not_lt_zero _)⟩ ?step ?done)
  · rw [upd_ne (ne_of_none e hHk), upd_ne (ne_of_none e hHL)]
    exact e
  · rw [upd_ne hkL, upd_same]
  case step =>
    rintro j u s' hu ⟨Hi, ks, Ii, sm, hL, hk, hlk, hall⟩
    rw [Nat.zero_add] at hlk hall ⊢
    have hj : j < xs.length := by
      have := (List.getElem?_eq_some_iff.mp hu).1
      omega
    obtain ⟨u2, hu2, rx⟩ := rv.get (i := j) (x := xs[j]) (List.getElem?_eq_getElem hj)
    obtain rfl : u2 = u := Option.some.inj (hu2.symm.trans hu)
    have hxm : xs[j] ∈ xs := List.getElem_mem hj
    have hxj : xs[j]? = some xs[j] := List.getElem?_eq_getElem hj
    generalize xs[j] = x at rx hxm hxj
    have hps : ps.length = 1 := (F.len _ _ _ _ (hsp x hxm Hi sm (fun _ _ => True) fun _ _ _ _ _ => trivial)).symm
    have run : wpAny (model X.prog X.w) X.A.in1.in1 (call (.ref f) [u2]) (EP X pins σ fun v H' => ∃ q, v = .ref q ∧ Same Hi H' ∧ Hi q = none ∧ H' q = some (.lst ((key x).map V.int))) (fun _ _ => False) s' := by
      have bd := hb s' [u2] Ii.kIn (by rw [hps]; rfl)
      refine wpAny_call (codeAny_mono (F.run X.A.in1.in1 X.stack s' Hi ⟨[u2], []⟩ [u2] [x] (fun v H' => ∃ q, v = .ref q ∧ Same Hi H' ∧ Hi q = none ∧ H' q = some (.lst ((key x).map V.int))) E0 ?_ Ii.env0.in1.in1 bd (.cons rx .nil) (hsp x hxm Hi sm _ fun H2 q a1 a2 a3 => ⟨q, rfl, a1, a2, a3⟩)) fun r s2 hq => ?_)
      · exact ⟨hr.hd, by have := hr.dp; show X.A.depth + 3 * lv + 5 < _; omega, by have := hr.un; show X.A.units + 1 + 1 + 16 * lv + 200 < _; omega⟩
      · cases r with
        | error e => exact hq.elim
        | ok fl =>
          cases fl with
          | ret v => exact Ii.after hq
          | next => exact False.elim hq
          | brk => exact False.elim hq
          | cont => exact False.elim hq
    refine wpAny_bind (wpAny_attempt (wpAny_mono run (fun v s2 he => ?_) fun _ _ hF => hF.elim))
    obtain ⟨vv, H2, I2, rv2, p, rfl, sm2, np, hp⟩ := he
    obtain rfl : v = .ref p := rv2
    have hk2 := sm2 _ _ hk
    have hL2 := sm2 _ _ hL
    obtain ⟨hzk, kits, n2, rk, ek⟩ := I2.hok kS _ hk2
    have hpk : p ≠ kS := fun e => by
      rw [e, hk] at np
      cases np
    obtain ⟨c2, hc2⟩ : ∃ c2, (s2.heap.update kS (Obj.mapSeq (·.push (Value.ref p)))).get? kS = some (seqObj "list" (kits.toArray.push (.ref p)) c2) := ⟨_, get?_update_seq ek (·.push (.ref p))⟩
    have ea : kits.toArray.push (Value.ref p) = (kits ++ [Value.ref p]).toArray := by simp
    have hkl : kits.length = j := by
      rw [← rk.length]
      exact hlk
    dsimp only
    refine wpAny_bind (listUpdate_at ek rfl ?_ (by rw [List.size_toArray]; omega) (by rw [Array.size_push, List.size_toArray]; omega))
    rw [ea] at hc2
    refine wpAny_pure ⟨rfl, _, ks ++ [.ref p], I2.write (x := kS) (e := kS) (t' := s2.toks) (o := .lst (ks ++ [.ref p])) (by rw [hk2]; trivial) (.inl rfl) (fun b u hbk hu => ?_) ⟨_, hc2⟩ ⟨by rw [List.length_append, hlk]; show j + 1 ≤ _; omega, kits ++ [.ref p], c2, rk.append (.cons (show RelV (.ref p) (.ref p) from rfl) .nil), hc2⟩, fun b u e => ?_, ?_, upd_same, by rw [List.length_append, hlk]; rfl, fun i y hi hy => ?_⟩
    · rw [Heap.get?_update_ne _ _ _ _ hbk]
      exact hu
    · have := ne_of_none e hHk
      rw [upd_ne this]
      exact sm2 _ _ (sm _ _ e)
    · rw [upd_ne hkL]
      exact hL2
    · by_cases hij : i < j
      · obtain ⟨q', e1, e2, e3⟩ := hall i y hij hy
        refine ⟨q', ?_, e2, ?_⟩
        · rw [List.getElem?_append_left (by omega)]
          exact e1
        · rw [upd_ne e2]
          exact sm2 _ _ e3
      · have hij : i = j := by omega
        subst hij
        rw [hxj] at hy
        cases hy
        refine ⟨p, ?_, hpk, ?_⟩
        · rw [List.getElem?_append_right (by omega), hlk, Nat.sub_self]
          rfl
        · rw [upd_ne hpk]
          exact hp
  case done =>
    rintro s' ⟨Hi, ks, Ii, sm, hL, hk, hlk, hall⟩
    rw [Nat.zero_add] at hlk hall
    obtain ⟨hzk, kits, n2, rk, ek⟩ := Ii.hok kS _ hk
    have eL : s'.heap.get? L = some (seqObj "list" #[] e1) := by
      have := (Ii.hok L _ hL).1
      rw [eo] at this
      exact this
    have hkl : kits.length = its.length := by
      rw [← rk.length]
      exact hlk
    refine wpAny_bind (listItems_at ek rfl ?_)
    have hk' : PySem.W.EachIs (fun v d => ∃ as, Reads s'.heap v d as) kits (xs.map fun x => encR (key x)) := by
      refine PySem.W.EachIs.of_zip (by rw [List.length_map]; omega) fun pr hpr => ?_
      obtain ⟨i, hi, e⟩ := List.mem_iff_getElem.mp hpr
      rw [List.length_zip, List.length_map] at hi
      rw [List.getElem_zip, List.getElem_map] at e
      subst e
      have hx : i < xs.length := by omega
      obtain ⟨q', e1, e2, e3⟩ := hall i xs[i] (by omega) (List.getElem?_eq_getElem hx)
      obtain ⟨u, hu, ru⟩ := rk.get e1
      obtain rfl : u = .ref q' := ru
      have hki : i < kits.length := by omega
      rw [List.getElem?_eq_getElem hki] at hu
      refine ⟨[q'], ?_⟩
      show Reads s'.heap kits[i] _ _
      rw [Option.some.inj hu]
      exact reads_lst (Ii.hok q' _ e3)
    have hal : PySem.W.AllAlike (xs.map fun x => encR (key x)) := PySem.W.AllAlike.of fun a b => encR_alike _ _
    have hsk : PySem.W.Sortable (xs.map fun x => encR (key x)) := PySem.W.Sortable.others fun b => ⟨(fun z => nomatch z), fun _ z => nomatch z⟩
    have hu : ∀ d, d ∈ xs.map (fun x => encR (key x)) → X.A.in1.in1.units + d.depth < cLine := fun d hd => by
      obtain ⟨x, _, rfl⟩ := List.mem_map.mp hd
      have h1 := encR_depth (key x)
      have h2 := hr.un
      show X.A.units + 1 + 1 + _ < _
      omega
    refine PySem.W.keyH_end (κ := PySem.W.dataKind s'.heap (xs.map fun x => encR (key x))) (h₁ := PySem.W.hideAll s'.heap [kS]) (fun b u _ e => PySem.W.of_hideAll [kS] e) (PySem.W.hideAll_none [kS] (by simp)) ek eL hkL.symm (PySem.W.SortsAt.data (by simpa using hk') hal hsk hu) (by rw [List.size_toArray]; exact hkl) hz' fun h' tk c kp n3 => ⟨rfl, ?_⟩
    have ko : PySem.W.KeyedOut false (xs.map fun x => encR (key x)) its (PySem.W.sortVals (PySem.W.dataKind s'.heap (xs.map fun x => encR (key x))) false kits.toArray.toList its) := ⟨s'.heap, kits, hal, by simp, hk'⟩
    have ev := each_vals (PySem.W.keyedOut_each (R := fun v x => RelV x v) (fun x => encR (key x)) ko (vals_each rv))
    rw [PySem.W.dataLe_rows] at ev
    have hz3 : (xs.mergeSort fun x y => decide (key x ≤ key y)).length ≤ sizeLine := by
      rw [List.length_mergeSort]
      exact hz
    have hkk : Hi kS = some (.lst ks) := hk
    refine ⟨.ref L, _, sort_done Ii hL hk hn (Nat.le_trans I.sz hks) kp hz3 ev n3, rfl, q _ L (fun b u e => ?_) hHL upd_same⟩
    rw [upd_ne (ne_of_none e hHL), drop1_ne (ne_of_none e hHk), upd_ne (ne_of_none e hHL)]
    exact sm _ _ e
end
end KM
set_option Elab.async false
set_option linter.all false
set_option maxRecDepth 100000
set_option maxHeartbeats 2000000
namespace KM
open PySem PySem.Spec PyProof.Rows L2
/-! ### max(xs, default=d), a list of ints -/
/-- m is the greatest of the first j -/
def IsTop (val : Nat → Int) (m : Int) (j : Nat) : Prop := (∃ i, i < j ∧ val i = m) ∧ ∀ i, i < j → val i ≤ m
theorem isTop_one (val : Nat → Int) : IsTop val (val 0) 1 := ⟨⟨0, by omega, rfl⟩, fun i hi => by
  have : i = 0 := by omega
  rw [this]
  exact Int.le_refl _⟩
theorem isTop_up {val : Nat → Int} {m : Int} {j : Nat} (h : IsTop val m j) (hm : val j > m) : IsTop val (val j) (j + 1) := ⟨⟨j, by omega, rfl⟩, fun i hi => by
  by_cases e : i = j
  · rw [e]
    exact Int.le_refl _
  · have := h.2 i (by omega)
    omega⟩
theorem isTop_stay {val : Nat → Int} {m : Int} {j : Nat} (h : IsTop val m j) (hm : ¬ val j > m) : IsTop val m (j + 1) := by
  obtain ⟨⟨i, hi, e⟩, h2⟩ := h
  refine ⟨⟨i, by omega, e⟩, fun i hi => ?_⟩
  by_cases e : i = j
  · rw [e]
    omega
  · exact h2 i (by omega)
/-- what stands in the store: nothing yet, or the greatest so far -/
def Best (val : Nat → Int) (j : Nat) (xs : Array Value) : Prop := (j = 0 ∧ xs = #[]) ∨ ∃ m t, xs = #[Value.int m t, .int m t] ∧ IsTop val m j
section
variable {prog : Program} {w : World} {A : Around} {I : Addr} {fp wr : List Addr} {n : Nat} {P : Nat → Value → Prop} {St : Nat → Heap → Prop} {R : Result → Shared → Prop}
theorem maxD_loop (W : Walks prog w A.in1 I fp wr n P St) {val : Nat → Int} (hval : ∀ i v, P i v → ∃ t, v = .int (val i) t) {S : Addr} (hSf : S ∉ fp) (d : Value) :
    ∀ (k j : Nat) (s : Shared) (xs : Array Value) (c : Nat), n - j = k → j ≤ n → St j s.heap → Best val j xs → s.heap.get? S = some { cls := .type "list", dict := none, data := .seq xs c, slots := #[] } →
      (∀ v h' tk, ((n = 0 ∧ v = d) ∨ ∃ m t, v = .int m t ∧ IsTop val m n) → (∀ b o, b ∉ wr → b ≠ S → s.heap.get? b = some o → h'.get? b = some o) → R (.ok (.ret v)) { s with heap := h', toks := tk }) →
      codeAny (model prog w) A (.builtin "max.loop" ⟨[.ref I, .none, .ref S], [(Str.ofString "default", d)]⟩) R s := by
  have hSw : S ∉ wr := fun h => hSf (W.sub _ h)
  have hnm : (toString "max" ++ toString ".loop" : String) = "max.loop" := by decide
  have quiet : (Code.builtin "max.loop" ⟨[.ref I, .none, .ref S], [(Str.ofString "default", d)]⟩).quiet = true := plainId_quiet F.plain_max_loop _
  intro k
  induction k with
  | zero =>
    intro j s xs c hk hj hst hb hS hR
    obtain rfl : j = n := by omega
    apply codeAny_builtin F.entry_max_loop; rw [Around.under_plainId F.plain_max_loop _]
    show wpAny _ A.in1 (seqItems? (.ref S) >>= _) _ _ s; apply wpAny_bind; apply wpAny_seqItems hS rfl
    rcases hb with ⟨rfl, rfl⟩ | ⟨m, t, rfl, hm⟩
    · show wpAny _ A.in1 (tryCatch (pyNext (.ref I)) _ >>= _) _ _ s; apply wpAny_bind; apply wpAny_tryCatch; refine W.done s _ _ hst fun h' tk hk' => ?_
      refine wpAny_bind (wpAny_rule (wpAny_pure ?_))
      exact hR d h' tk (.inl ⟨rfl, rfl⟩) fun b o h1 h2 e => hk' b o h1 e
    · show wpAny _ A.in1 (tryCatch (pyNext (.ref I)) _ >>= _) _ _ s; apply wpAny_bind; apply wpAny_tryCatch; refine W.done s _ _ hst fun h' tk hk' => ?_
      have hS' := hk' S _ hSw hS
      show wpAny _ A.in1 (updateSeq S (fun _ => #[]) >>= _) _ _ _; apply wpAny_bind; refine wpAny_updateSeq hS' rfl (wpAny_bind (wpAny_letGo (wpAny_pure ?_)))
      exact hR _ _ tk (.inr ⟨m, t, rfl, hm⟩) fun b o h1 h2 e => (Heap.get?_update_other _ _ (Ne.symm h2)).trans (hk' b o h1 e)
  | succ k ih =>
    intro j s xs c hk hj hst hb hS hR
    have hlt : j < n := by omega
    apply codeAny_builtin F.entry_max_loop; rw [Around.under_plainId F.plain_max_loop _]
    show wpAny _ A.in1 (seqItems? (.ref S) >>= _) _ _ s; apply wpAny_bind; apply wpAny_seqItems hS rfl
    rcases hb with ⟨rfl, rfl⟩ | ⟨m, t, rfl, hm⟩
    · show wpAny _ A.in1 (tryCatch (pyNext (.ref I)) _ >>= _) _ _ s; apply wpAny_bind; apply wpAny_tryCatch; refine W.item 0 s _ _ hlt hst fun v h' tk hP hst' hk' => ?_
      have hS' := hk' S _ hSw hS
      obtain ⟨t, rfl⟩ := hval 0 v hP
      show wpAny _ A.in1 (updateSeq S (fun _ => #[_, _]) >>= _) _ _ _; apply wpAny_bind; refine wpAny_updateSeq hS' rfl ?_; rw [hnm]
      refine wpAny_pure ⟨quiet, ih 1 _ #[.int (val 0) t, .int (val 0) t] _ (by omega) hlt (W.frame _ _ _ hst' fun b hbf o e => ?_) (.inr ⟨_, t, rfl, isTop_one val⟩) (Heap.get?_update_self _ hS' rfl) fun v h2 tk2 hv hk2 => ?_⟩
      · exact (Heap.get?_update_other _ _ fun h : S = b => hSf (by rw [h]; exact hbf)).trans e
      · exact hR v h2 tk2 hv fun b o h1 h3 e => hk2 b o h1 h3 ((Heap.get?_update_other _ _ (Ne.symm h3)).trans (hk' b o h1 e))
    · show wpAny _ A.in1 (tryCatch (pyNext (.ref I)) _ >>= _) _ _ s; apply wpAny_bind; apply wpAny_tryCatch; refine W.item j s _ _ hlt hst fun v h' tk hP hst' hk' => ?_
      have hS' := hk' S _ hSw hS
      obtain ⟨u, rfl⟩ := hval j v hP
      show wpAny _ A.in1 (tryCatch (holding [_, _] (richCompare .Gt _ _ >>= _)) _ >>= _) _ _ _; apply wpAny_bind; apply wpAny_tryCatch; apply wpAny_holding; apply wpAny_bind
      refine richCompare_gives (op := .Gt) (typeIs_int _ _ u) (typeIs_int _ _ t) F.slot_int_gt F.entry_int_gt (F.args_int_gt_2 _ _) (gives_int_gt _ _ u t) (fun x => nomatch x) ?_
      refine wpAny_bind (wpAny_holding (wpAny_truthy_bool (wpAny_bind (wpAny_letGo (wpAny_pure ?_)))))
      by_cases hg : val j > m
      · rw [decide_eq_true hg, if_pos rfl]; apply wpAny_bind; refine wpAny_updateSeq hS' rfl (wpAny_bind (wpAny_letGo ?_)); rw [hnm]
        refine wpAny_pure ⟨quiet, ih (j + 1) _ #[.int (val j) u, .int (val j) u] _ (by omega) hlt (W.frame _ _ _ hst' fun b hbf o e => ?_) (.inr ⟨_, u, rfl, isTop_up hm hg⟩) (Heap.get?_update_self _ hS' rfl) fun v h2 tk2 hv hk2 => ?_⟩
        · exact (Heap.get?_update_other _ _ fun h : S = b => hSf (by rw [h]; exact hbf)).trans e
        · exact hR v h2 tk2 hv fun b o h1 h3 e => hk2 b o h1 h3 ((Heap.get?_update_other _ _ (Ne.symm h3)).trans (hk' b o h1 e))
      · rw [decide_eq_false hg, if_neg Bool.false_ne_true]; apply wpAny_bind; apply wpAny_letGo; rw [hnm]
        refine wpAny_pure ⟨quiet, ih (j + 1) _ #[.int m t, .int m t] c (by omega) hlt hst' (.inr ⟨m, t, rfl, isTop_stay hm hg⟩) hS' fun v h2 tk2 hv hk2 => ?_⟩
        exact hR v h2 tk2 hv fun b o h1 h3 e => hk2 b o h1 h3 (hk' b o h1 e)
end
theorem args_maxD (a d : Value) : argsOk "max" ⟨[a], [(Str.ofString "default", d)]⟩ := by unfold argsOk; kernel_rfl
section
variable {prog : Program} {w : World} {A : Around} {E : Value → Shared → Prop} {s : Shared}
theorem maxD_raw {l : Addr} {its : List Value} {ns : List Int} {d : Value} {Q : Value → Shared → Prop} (hh : A.handled = none) (hl : s.heap.IsList l its.toArray) (hi : IntsAre its ns)
    (h : ∀ v h' tk, (∀ b o, s.heap.get? b = some o → h'.get? b = some o) → ((ns = [] ∧ v = d) ∨ ∃ m t, v = .int m t ∧ m ∈ ns ∧ ∀ y, y ∈ ns → y ≤ m) → Q v { s with heap := h', toks := tk }) :
    wpAny (model prog w) A (call (.builtin "max") [.ref l] [(Str.ofString "default", d)]) Q E s := by
  have hnm : (toString "max" ++ toString ".loop" : String) = "max.loop" := by decide
  have hlt : l < s.heap.objs.size := by obtain ⟨_, e, _⟩ := hl; exact Heap.lt_size e
  have hlen : its.length = ns.length := hi.length
  have body : wpAny (model prog w) A.in1 (Builtin.«max» ⟨[.ref l], [(Str.ofString "default", d)]⟩) (fun fin s' => match fin with
      | .done f => (match (Except.ok f : Result) with | .ok (.ret v) => Q v s' | .ok _ => False | .error e => E e s')
      | .again c' => c'.quiet = true ∧ codeAny (model prog w) A c' (fun r s' => match r with | .ok (.ret v) => Q v s' | .ok _ => False | .error e => E e s') s') E s := by
    show wpAny _ A.in1 (Builtin.Builtins.bindParams "max" ["key", "default"] 0 ⟨[], [(Str.ofString "default", d)]⟩ >>= _) _ _ s
    refine wpAny_bind (wpAny_of_eq (show Builtin.Builtins.bindParams "max" ["key", "default"] 0 ⟨[], [(Str.ofString "default", d)]⟩ = pure [none, some d] from rfl) ?_)
    refine wpAny_bind (wpAny_pure (wpAny_bind (wpAny_pyIter_list hl ?_)))
    have hlI : l ≠ s.heap.objs.size := Nat.ne_of_lt hlt
    have W := Walks.list (prog := prog) (w := w) (A := A.in1) hh s.heap.objs.size l hlI its.toArray
    refine wpAny_bind (wpAny_newObj_type ?_); rw [hnm]
    refine wpAny_pure ⟨plainId_quiet F.plain_max_loop _, maxD_loop W (val := fun i => ns.getD i 0) (fun i v hv => ?_) ?_ d _ 0 _ #[] _ rfl (Nat.zero_le _) ⟨?_, ?_⟩ (.inl ⟨rfl, rfl⟩) (Heap.get?_push_size _ rfl) fun v h' tk hv hk => ?_⟩
    · exact IntsAre.int_at hi _ _ (by simpa using hv)
    · intro hm
      rcases List.mem_cons.mp hm with e | hm
      · rw [size_push'] at e
        exact absurd e (Nat.succ_ne_self _)
      · have e := List.mem_singleton.mp hm
        rw [size_push'] at e
        exact absurd (e ▸ hlt) (Nat.not_lt.mpr (Nat.le_succ _))
    · exact ⟨_, Heap.get?_push_of_some _ (Heap.get?_push_size _ rfl), rfl, rfl⟩
    · exact (hl.push _).push _
    · refine h v h' tk (fun b o e => hk b o (fun hm => ?_) (fun e2 => ?_) (Heap.get?_push_of_some _ (Heap.get?_push_of_some _ e))) ?_
      · have e3 := List.mem_singleton.mp hm
        exact absurd (e3 ▸ Heap.lt_size e) (Nat.lt_irrefl _)
      · rw [size_push'] at e2
        exact absurd (e2 ▸ Heap.lt_size e) (Nat.not_lt.mpr (Nat.le_succ _))
      · have hsz : its.toArray.size = ns.length := by rw [List.size_toArray]; exact hlen
        rw [hsz] at hv
        rcases hv with ⟨h0, rfl⟩ | ⟨m, t, rfl, ⟨i, hi2, e⟩, h2⟩
        · exact .inl ⟨List.length_eq_zero_iff.mp h0, rfl⟩
        · refine .inr ⟨m, t, rfl, ?_, fun y hy => ?_⟩
          · rw [← e]
            show ns.getD i 0 ∈ ns
            rw [List.getD_eq_getElem?_getD, List.getElem?_eq_getElem hi2]
            exact List.getElem_mem hi2
          · obtain ⟨j, hj, rfl⟩ := List.mem_iff_getElem.mp hy
            have : ns.getD j 0 ≤ m := h2 j hj
            rw [List.getD_eq_getElem?_getD, List.getElem?_eq_getElem hj] at this
            exact this
  refine wpAny_call (codeAny_call_builtin F.plain_max F.entry_max ?_)
  simp only [checkBuiltinCall, F.kind_max]
  have ha := args_maxD (.ref l) d
  cases hsig : Manifest.signature? "max" with
  | none => exact wpAny_pure body
  | some sig =>
    have ha' : Bind.checkArgs "max" sig ⟨[.ref l], [(Str.ofString "default", d)]⟩ = pure () := by simpa only [argsOk, hsig] using ha
    simp only [ha']
    exact wpAny_pure body
end
def rMaxD (K : PySem.W.Frag) : List V → List V → Hp → VK → Prop := fun vs zs H Q => ∃ (a : Addr) (ns : List Int) (d : Int), vs = [V.ref a] ∧ zs = [V.int d] ∧ SqL K H a (ns.map V.int) ∧ ∀ m, ((ns = [] ∧ m = d) ∨ (m ∈ ns ∧ ∀ y, y ∈ ns → y ≤ m)) → Q (.int m) H
theorem cr_maxD {X : Cx} (hc : X.calm = true) : CallRK X (.builtin "max") [Str.ofString "default"] (rMaxD X.K) := by
  intro pins s σ H vs zs us ws Q I r rz h
  obtain ⟨a, ns, d, rfl, rfl, hs, q⟩ := h
  obtain ⟨its, rv, hl, _⟩ := I.list hs
  obtain rfl := Vals.ref1 r
  obtain ⟨w1, rfl, e1⟩ := vals1 rz
  obtain ⟨t0, rfl⟩ := e1
  refine maxD_raw (I.ok.hd hc) hl.isList rv.ints fun v h' tk hk hv => ?_
  rcases hv with ⟨h0, rfl⟩ | ⟨m, t, rfl, h1, h2⟩
  · exact ⟨.int _, H, I.kept hk, ⟨_, rfl⟩, q d (.inl ⟨h0, rfl⟩)⟩
  · exact ⟨.int _, H, I.kept hk, ⟨_, rfl⟩, q m (.inr ⟨h1, h2⟩)⟩
end KM
namespace KM
open PySem PySem.Spec PyProof.Rows L2
def topS (i : Nat) : Stmt := PySem.Challenge.pw_everywaydesk_s05_told.main.body.getD i (.Pass ⟨0, 0, 0, 0⟩)
abbrev sTop : Stmt := topS 5
abbrev sSpace : Stmt := topS 6
abbrev sCount : Stmt := topS 7
abbrev sPoint : Stmt := topS 8
abbrev sNums : Stmt := topS 9
abbrev sSet : Stmt := topS 10
abbrev sDir : Stmt := topS 11
abbrev sAll : Stmt := topS 12
abbrev sDeg : Stmt := topS 13
abbrev sRank : Stmt := topS 14
abbrev sHigh : Stmt := topS 15
abbrev sVal : Stmt := topS 16
abbrev sVals : Stmt := topS 17
abbrev sLow : Stmt := topS 18
abbrev sPset : Stmt := topS 19
abbrev sRow : Stmt := topS 20
abbrev sWo : Stmt := topS 21
abbrev sFirst : Stmt := topS 22
abbrev sScal : Stmt := topS 23
abbrev sTwf : Stmt := topS 24
abbrev sFd : Stmt := topS 25
end KM
namespace KM
open PySem PySem.Spec PyProof.Rows L2
abbrev iv (k : Nat) : V := .int (k : Int)
def ivs (l : List Nat) : List V := l.map iv
theorem ivs_length (l : List Nat) : (ivs l).length = l.length := List.length_map ..
theorem ivs_append (a b : List Nat) : ivs (a ++ b) = ivs a ++ ivs b := List.map_append ..
theorem ivs_get {l : List Nat} {i : Nat} {c : Nat} (h : l[i]? = some c) : (ivs l)[i]? = some (iv c) := by
  unfold ivs
  rw [List.getElem?_map, h]
  rfl
theorem ivs_at {l : List Nat} {i : Nat} {x : V} (h : (ivs l)[i]? = some x) : ∃ c, l[i]? = some c ∧ x = iv c := by
  unfold ivs at h
  rw [List.getElem?_map] at h
  cases e : l[i]? with
  | none =>
    rw [e] at h
    cases h
  | some c =>
    rw [e] at h
    exact ⟨c, rfl, (Option.some.inj h).symm⟩
theorem same_upd {H : Hp} {p : Addr} {o : HO} (h : H p = none) : Same H (upd H p o) := fun b x e => by
  rw [upd_ne (ne_of_none e h)]
  exact e
theorem same_new {H H' : Hp} {p : Addr} {o : HO} (s : Same H H') (h : H p = none) : Same H (upd H' p o) := fun b x e => by
  rw [upd_ne (ne_of_none e h)]
  exact s _ _ e
theorem ne_free {H : Hp} {a b : Addr} {o : HO} (h : H a = some o) (n : H b = none) : b ≠ a := fun e => by
  rw [e, h] at n
  cases n
theorem decide_iv (a b : Nat) : decide (iv a = iv b) = decide (a = b) := by
  by_cases h : a = b
  · subst h; simp
  · have : iv a ≠ iv b := fun e => h (by have := V.int.inj e; omega)
    simp [h, this]
theorem sz {n : Nat} (h : n ≤ 1000) : n < sizeLine := small1000 h

structure Txt (K : PySem.W.Frag) (mg : Str → Option Value) (aP : Addr) (tM tW tN : Nat) : Prop where
  gP : mg "PRIMES" = some (.ref aP)
  hP : ∀ H : Hp, SqT K H aP (ivs [2, 3, 5, 7])
  gM : mg "MOST_NUMBERS" = some (.int 3 tM)
  gW : mg "WRONG_FORM" = some (.int (-22) tW)
  range : mg "range" = none

/-! ### the promises -/
def spSpace : Sp := fun vs H Q _ => ∃ p n : Nat, vs = [iv p, iv n] ∧ Q (.bl (Kzt1.okField p n)) H
def spCount : Sp := fun vs H Q _ => ∃ p n : Nat, vs = [iv p, iv n] ∧ p ≤ 7 ∧ n ≤ 3 ∧ Q (iv (p ^ n)) H
def spPoint : Sp := fun vs H Q _ => ∃ p n x : Nat, vs = [iv p, iv n, iv x] ∧ p ≤ 7 ∧ n ≤ 3 ∧ Q (.bl (decide (x < p ^ n))) H
def spNums : Sp := fun vs H Q _ => ∃ p n x : Nat, vs = [iv p, iv n, iv x] ∧ 0 < p ∧ p ≤ 7 ∧ n ≤ 3 ∧ ∀ (H' : Hp) (a : Addr), Same H H' → H a = none → H' a = some (.lst (ivs (Kzt1.coords p n x))) → Q (.ref a) H'
def spDir : Sp := fun vs H Q _ => ∃ p n v : Nat, vs = [iv p, iv n, iv v] ∧ 0 < p ∧ p ≤ 7 ∧ n ≤ 3 ∧ ∀ H' : Hp, Same H H' → Q (.bl (isDir p n v)) H'

end KM
namespace KM
open PySem PySem.Spec PyProof.Rows L2
section
variable {P : Program} {w : World} {K : PySem.W.Frag} {mg : Str → Option Value} {base : Heap} {aP : Addr} {tM tW tN : Nat}
theorem scSpace : FnScope ["p", "n"] ["p", "n"] (defScope sSpace) := ⟨rfl, rfl, rfl, by decide +kernel, rfl, by decide +kernel, by decide +kernel⟩
theorem in_primes (p : Nat) : inV (iv p) (ivs [2, 3, 5, 7]) = (p == 2 || p == 3 || p == 5 || p == 7) := by
  have e : ∀ q : Nat, eqV (iv q) (iv p) = (p == q) := fun q => by
    show ((q : Int) == (p : Int)) = (p == q)
    rw [Bool.eq_iff_iff]
    simp only [beq_iff_eq]
    omega
  show (eqV (iv 2) (iv p) || (eqV (iv 3) (iv p) || (eqV (iv 5) (iv p) || (eqV (iv 7) (iv p) || false)))) = _
  rw [e, e, e, e, Bool.or_false, Bool.or_assoc, Bool.or_assoc]
theorem ok_space {f : Addr} {fd : FuncData} {k : Nat} (F : Fun K "is_space" "is_space" sSpace f fd) (T : Txt K mg aP tM tW tN) : FnOk P w K mg base CX0 (k + 1) f fd ["p", "n"] spSpace := by
  refine F.ok scSpace (fun vs H Q E h => ?_) (fun cdv A outer s H vs Q E hr h => ?_)
  · obtain ⟨p, n, rfl, _⟩ := h
    rfl
  · obtain ⟨p, n, rfl, q⟩ := h
    refine ⟨_, pss_one (ps_ret (pe_and (pe_cmpR op_in_seq (pv 0) (pe_glob (v := .ref aP) (by rfl) T.gP rfl) (by rfl)) (pe_one (pe_chain op_le op_le pe_int (pv 1) (pe_glob (v := .int 3) (by rfl) T.gM ⟨_, rfl⟩))))), ?_⟩
    refine ⟨iv p, rfl, aP, ivs [2, 3, 5, 7], rfl, .inr (T.hP H), rfl, rfl, _, rfl, ?_⟩
    show if inV (iv p) (ivs [2, 3, 5, 7]) = true then _ else _
    rw [in_primes]
    refine ite2 (fun e => ?_) (fun e => ?_)
    · refine ⟨iv n, rfl, 1, n, rfl, rfl, _, rfl, ite2 (fun e1 => ?_) (fun e1 => ?_)⟩
      · refine ⟨n, 3, rfl, rfl, ?_⟩
        have e2 : Kzt1.okField p n = decide ((n : Int) ≤ 3) := by
          have h1 : 1 ≤ n := by have := of_decide_eq_true e1; omega
          unfold Kzt1.okField
          rw [e, decide_eq_true h1, Bool.true_and, Bool.true_and]
          exact decide_eq_decide.mpr (by omega)
        show Q (.bl (decide ((n : Int) ≤ 3))) H
        rw [← e2]
        exact q
      · have h1 : ¬ 1 ≤ n := fun z => e1 (decide_eq_true (by omega))
        have e2 : Kzt1.okField p n = false := by
          unfold Kzt1.okField
          rw [decide_eq_false h1, Bool.and_false, Bool.false_and]
        show Q (.bl false) H
        rw [← e2]
        exact q
    · have e2 : Kzt1.okField p n = false := by
        unfold Kzt1.okField
        rw [Bool.eq_false_iff.mpr e, Bool.false_and, Bool.false_and]
      show Q (.bl false) H
      rw [← e2]
      exact q
end
end KM
namespace KM
open PySem PySem.Spec PyProof.Rows L2
section
variable {P : Program} {w : World} {K : PySem.W.Frag} {mg : Str → Option Value} {base : Heap} {aP : Addr} {tM tW tN : Nat}
theorem scCount : FnScope ["p", "n", "count", "place"] ["p", "n"] (defScope sCount) := ⟨rfl, rfl, rfl, by decide +kernel, rfl, by decide +kernel, by decide +kernel⟩
theorem ok_count {f : Addr} {fd : FuncData} {k : Nat} (F : Fun K "count_points" "count_points" sCount f fd) (T : Txt K mg aP tM tW tN) : FnOk P w K mg base CX0 (k + 1) f fd ["p", "n"] spCount := by
  refine F.ok scCount (fun vs H Q E h => ?_) (fun cdv A outer s H vs Q E hr h => ?_)
  · obtain ⟨p, n, rfl, _⟩ := h
    rfl
  · obtain ⟨p, n, rfl, hp, hn, q⟩ := h
    refine ⟨_, pss_cons (ps_set (i := 2) scCount.nd rfl (.inl rfl) pe_int)
      (pss_cons (ps_for PassesOwn.never rfl (pi_range1 (by rfl) T.range (pa_cons (pv 1) pa_nil)) (pg_name (i := 3) scCount.nd rfl (.inl rfl))
        (pss_one (ps_set (i := 2) scCount.nd rfl (.inl rfl) (pe_op op_mul (pv 2) (pv 0)))))
      (pss_one (ps_ret (pv 2)))), ?_⟩
    refine ⟨iv n, rfl, (n : Int), rfl, by omega, by omega, for_range (n := (n : Int).toNat) (fun i σ H' => ∃ y, σ = [some (iv p), some (iv n), some (iv (p ^ i)), y] ∧ H' = H) ⟨none, rfl, rfl⟩ ?_ ?_⟩
    · rintro i σ H' hi ⟨y, rfl, rfl⟩
      refine ⟨iv (p ^ i), rfl, iv p, rfl, _, _, rfl, rfl, .inr ⟨by omega, by omega⟩, some (.int (0 + (i : Int))), ?_, rfl⟩
      show [some (iv p), some (iv n), some (V.int ((p ^ i : Nat) * (p : Int))), _] = _
      rw [show ((p ^ i : Nat) * (p : Int)) = ((p ^ (i + 1) : Nat) : Int) by rw [Nat.pow_succ, Int.natCast_mul]]
    · rintro σ H' ⟨y, rfl, rfl⟩
      rw [Int.toNat_natCast]
      exact ⟨_, rfl, q⟩
end
end KM
namespace KM
open PySem PySem.Spec PyProof.Rows L2
section
variable {P : Program} {w : World} {K : PySem.W.Frag} {mg : Str → Option Value} {base : Heap} {aP : Addr} {tM tW tN : Nat}
theorem scPoint : FnScope ["p", "n", "x"] ["p", "n", "x"] (defScope sPoint) := ⟨rfl, rfl, rfl, by decide +kernel, rfl, by decide +kernel, by decide +kernel⟩
theorem ok_point {f fC : Addr} {fd fdC : FuncData} {k : Nat} (F : Fun K "is_point" "is_point" sPoint f fd) (FC : Fun K "count_points" "count_points" sCount fC fdC) (bC : Binds K fdC ["p", "n"] []) (gC : mg "count_points" = some (.ref fC)) (T : Txt K mg aP tM tW tN) :
    FnOk P w K mg base CX0 (k + 2) f fd ["p", "n", "x"] spPoint := by
  have GC : FnOk P w K mg base CX0 (k + 1) fC fdC ["p", "n"] spCount := ok_count FC T
  refine F.ok scPoint (fun vs H Q E h => ?_) (fun cdv A outer s H vs Q E hr h => ?_)
  · obtain ⟨p, n, x, rfl, _⟩ := h
    rfl
  · obtain ⟨p, n, x, rfl, hp, hn, q⟩ := h
    refine ⟨_, pss_one (ps_ret (pe_chain op_le op_lt pe_int (pv 2) (pe_call GC hr (by rfl) gC FC.kp bC .nil pass0 (pa_cons (pv 0) (pa_cons (pv 1) pa_nil))))), ?_⟩
    refine ⟨iv x, rfl, 0, x, rfl, rfl, _, rfl, ite2 (fun e1 => ?_) (fun e1 => ?_)⟩
    · refine ⟨iv p, rfl, iv n, rfl, p, n, rfl, hp, hn, x, (p ^ n : Nat), rfl, rfl, ?_⟩
      show Q (.bl (decide ((x : Int) < ((p ^ n : Nat) : Int)))) H
      rw [show decide ((x : Int) < ((p ^ n : Nat) : Int)) = decide (x < p ^ n) from decide_eq_decide.mpr (by omega)]
      exact q
    · exact absurd (decide_eq_true (by omega)) e1
end
end KM
namespace KM
open PySem PySem.Spec PyProof.Rows L2
section
variable {P : Program} {w : World} {K : PySem.W.Frag} {mg : Str → Option Value} {base : Heap} {aP : Addr} {tM tW tN : Nat}
theorem scNums : FnScope ["p", "n", "point", "numbers", "rest", "place"] ["p", "n", "point"] (defScope sNums) := ⟨rfl, rfl, rfl, by decide +kernel, rfl, by decide +kernel, by decide +kernel⟩
theorem ok_nums {f : Addr} {fd : FuncData} {k : Nat} (F : Fun K "numbers_of_point" "numbers_of_point" sNums f fd) (T : Txt K mg aP tM tW tN) : FnOk P w K mg base CX0 (k + 1) f fd ["p", "n", "point"] spNums := by
  refine F.ok scNums (fun vs H Q E h => ?_) (fun cdv A outer s H vs Q E hr h => ?_)
  · obtain ⟨p, n, x, rfl, _⟩ := h
    rfl
  · obtain ⟨p, n, x, rfl, h0, hp, hn, q⟩ := h
    refine ⟨_, pss_cons (ps_set (i := 3) scNums.nd rfl (.inl rfl) (pe_lst pa_nil))
      (pss_cons (ps_set (i := 4) scNums.nd rfl (.inl rfl) (pv 2))
      (pss_cons (ps_for PassesOwn.never rfl (pi_range1 (by rfl) T.range (pa_cons (pv 1) pa_nil)) (pg_name (i := 5) scNums.nd rfl (.inl rfl))
        (pss_cons (ps_expr (pe_bm PySem.F.plainAttrs_list PySem.F.slot_list_append PySem.F.type_list_append mt_append (pv 3) (pa_cons (pe_op op_mod (pv 4) (pv 0)) pa_nil)))
        (pss_one (ps_set (i := 4) scNums.nd rfl (.inl rfl) (pe_op op_fdiv (pv 4) (pv 0))))))
      (pss_one (ps_ret (pv 3))))), ?_⟩
    refine ⟨Nat.zero_le _, fun l nl => ?_⟩
    refine ⟨iv x, rfl, iv n, rfl, (n : Int), rfl, by omega, by omega, for_range (n := (n : Int).toNat) (fun i σ H' => ∃ y, σ = [some (iv p), some (iv n), some (iv x), some (.ref l), some (iv (x / p ^ i)), y] ∧ Same H H' ∧ H' l = some (.lst (ivs (Kzt1.coords p i x))))
      ⟨none, ?_, same_upd nl, upd_same⟩ ?_ ?_⟩
    · rw [Nat.pow_zero, Nat.div_one]
      rfl
    · rintro i σ H' hi ⟨y, rfl, sm, hl⟩
      refine ⟨.ref l, rfl, .inl ⟨rfl, _, SqL.of hl⟩, iv (x / p ^ i), rfl, iv p, rfl, _, _, rfl, rfl, by omega, l, _, _, rfl, rfl, hl, ?_, ?_⟩
      · rw [ivs_length, coords_length]
        exact sz (by omega)
      · refine ⟨iv (x / p ^ i), rfl, iv p, rfl, _, _, rfl, rfl, ⟨by omega, by omega⟩, some (.int (0 + (i : Int))), ?_, same_new sm nl, ?_⟩
        · show [some (iv p), some (iv n), some (iv x), some (.ref l), some (V.int (((x / p ^ i : Nat) : Int) / (p : Int))), _] = _
          rw [show ((x / p ^ i : Nat) : Int) / (p : Int) = ((x / p ^ (i + 1) : Nat) : Int) by rw [Nat.pow_succ, ← Nat.div_div_eq_div_mul]; exact (Int.natCast_ediv _ _).symm]
        · rw [upd_same, coords_succ, ivs_append]
          rfl
    · rintro σ H' ⟨y, rfl, sm, hl⟩
      rw [Int.toNat_natCast] at hl
      exact ⟨_, rfl, q H' l sm nl hl⟩
end
end KM
namespace KM
open PySem PySem.Spec PyProof.Rows L2
section
variable {P : Program} {w : World} {K : PySem.W.Frag} {mg : Str → Option Value} {base : Heap} {aP : Addr} {tM tW tN : Nat}
theorem scDir : FnScope ["p", "n", "v", "number"] ["p", "n", "v"] (defScope sDir) := ⟨rfl, rfl, rfl, by decide +kernel, rfl, by decide +kernel, by decide +kernel⟩
theorem ok_dir {f fC fP fN : Addr} {fd fdC fdP fdN : FuncData} {k : Nat} (F : Fun K "is_direction" "is_direction" sDir f fd)
    (FC : Fun K "count_points" "count_points" sCount fC fdC) (bC : Binds K fdC ["p", "n"] []) (gC : mg "count_points" = some (.ref fC))
    (FP : Fun K "is_point" "is_point" sPoint fP fdP) (bP : Binds K fdP ["p", "n", "x"] []) (gP : mg "is_point" = some (.ref fP))
    (FN : Fun K "numbers_of_point" "numbers_of_point" sNums fN fdN) (bN : Binds K fdN ["p", "n", "point"] []) (gN : mg "numbers_of_point" = some (.ref fN))
    (T : Txt K mg aP tM tW tN) : FnOk P w K mg base CX0 (k + 3) f fd ["p", "n", "v"] spDir := by
  have GP : FnOk P w K mg base CX0 (k + 2) fP fdP ["p", "n", "x"] spPoint := ok_point FP FC bC gC T
  have GN : FnOk P w K mg base CX0 (k + 2) fN fdN ["p", "n", "point"] spNums := ok_nums FN T
  refine F.ok scDir (fun vs H Q E h => ?_) (fun cdv A outer s H vs Q E hr h => ?_)
  · obtain ⟨p, n, v, rfl, _⟩ := h
    rfl
  · obtain ⟨p, n, v, rfl, h0, hp, hn, q⟩ := h
    refine ⟨_, pss_cons (ps_if (pt_not (pt_val (pe_call GP hr (by rfl) gP FP.kp bP .nil pass0 (pa_cons (pv 0) (pa_cons (pv 1) (pa_cons (pv 2) pa_nil)))))) (pss_one (ps_ret pe_bl)) pss_nil)
      (pss_cons (ps_for PassesOwn.never rfl (pi_list (pe_call GN hr (by rfl) gN FN.kp bN .nil pass0 (pa_cons (pv 0) (pa_cons (pv 1) (pa_cons (pv 2) pa_nil))))) (pg_name (i := 3) scDir.nd rfl (.inl rfl))
        (pss_one (ps_if (pt_cmpR op_ne (pv 3) pe_int (nomark _)) (pss_one (ps_ret (pe_cmpR op_eq (pv 3) pe_int (nomark _)))) pss_nil)))
      (pss_one (ps_ret pe_bl))), ?_⟩
    refine ⟨iv p, rfl, iv n, rfl, iv v, rfl, p, n, v, rfl, hp, hn, _, rfl, ?_⟩
    by_cases hv : v < p ^ n
    · rw [decide_eq_true hv]
      refine iteF ?_
      refine ⟨iv p, rfl, iv n, rfl, iv v, rfl, p, n, v, rfl, h0, hp, hn, fun H1 a sm na ha => ?_⟩
      have hd : isDir p n v = ((Kzt1.coords p n v).find? (fun x => x != 0) == some 1) := by
        unfold isDir
        rw [decide_eq_true hv, Bool.true_and]
      refine ⟨a, rfl, ⟨_, SqL.of ha⟩, for_list (K := K) (a := a) (xs := ivs (Kzt1.coords p n v)) (fun i σ H' => ∃ y, σ = [some (iv p), some (iv n), some (iv v), y] ∧ H' = H1 ∧ ((Kzt1.coords p n v).take i).find? (fun x => x != 0) = none)
        ⟨none, rfl, rfl, rfl⟩ ?_ ?_ ?_⟩
      · rintro i σ H' _ ⟨_, _, rfl, _⟩
        exact SqL.of ha
      · rintro i x σ H' hi ⟨y, rfl, rfl, hf⟩
        obtain ⟨c, hc, rfl⟩ := ivs_at hi
        refine ⟨iv c, rfl, rfl, _, rfl, ?_⟩
        by_cases c0 : c = 0
        · subst c0
          refine iteF ?_
          exact ⟨some (iv 0), rfl, rfl, find_none_take hf hc rfl⟩
        · have hne : decide (iv c = iv 0) = false := by
            rw [decide_iv]
            exact decide_eq_false c0
          show if (!decide (iv c = iv 0)) = true then _ else _
          rw [hne]
          refine iteT ?_
          refine ⟨iv c, rfl, rfl, ?_⟩
          have e := find_some_take hf hc c0
          have e2 : isDir p n v = decide (iv c = iv 1) := by
            rw [hd, e, decide_iv]
            rw [Bool.eq_iff_iff]
            simp
          show Q (.bl (decide (iv c = iv 1))) _
          rw [← e2]
          exact q _ sm
      · rintro σ H' ⟨y, rfl, rfl, hf⟩
        rw [ivs_length, List.take_length] at hf
        have e2 : isDir p n v = false := by
          rw [hd, hf]
          rfl
        show Q (.bl false) _
        rw [← e2]
        exact q _ sm
    · rw [decide_eq_false hv]
      refine iteT ?_
      have e2 : isDir p n v = false := by
        unfold isDir
        rw [decide_eq_false hv, Bool.false_and]
      show Q (.bl false) _
      rw [← e2]
      exact q _ (Same.refl _)
end
end KM
namespace KM
open PySem PySem.Spec PyProof.Rows L2
def spAll : Sp := fun vs H Q _ => ∃ p n : Nat, vs = [iv p, iv n] ∧ 0 < p ∧ p ≤ 7 ∧ n ≤ 3 ∧ p ^ n ≤ 343 ∧ ∀ (H' : Hp) (a : Addr), Same H H' → H a = none → H' a = some (.lst (ivs (Kzt2.directions p n))) → Q (.ref a) H'
section
variable {P : Program} {w : World} {K : PySem.W.Frag} {mg : Str → Option Value} {base : Heap} {aP : Addr} {tM tW tN : Nat}
theorem scAll : FnScope ["p", "n", "point"] ["p", "n"] (defScope sAll) := ⟨rfl, rfl, rfl, by decide +kernel, rfl, by decide +kernel, by decide +kernel⟩
theorem filter_succ (f : Nat → Bool) (i : Nat) : (List.range (i + 1)).filter f = (List.range i).filter f ++ (if f i then [i] else []) := by
  rw [List.range_succ, List.filter_append]
  cases h : f i <;> simp [h]
theorem ok_all {f fC fP fN fD : Addr} {fd fdC fdP fdN fdD : FuncData} {k : Nat} (F : Fun K "all_directions" "all_directions" sAll f fd)
    (FC : Fun K "count_points" "count_points" sCount fC fdC) (bC : Binds K fdC ["p", "n"] []) (gC : mg "count_points" = some (.ref fC))
    (FP : Fun K "is_point" "is_point" sPoint fP fdP) (bP : Binds K fdP ["p", "n", "x"] []) (gP : mg "is_point" = some (.ref fP))
    (FN : Fun K "numbers_of_point" "numbers_of_point" sNums fN fdN) (bN : Binds K fdN ["p", "n", "point"] []) (gN : mg "numbers_of_point" = some (.ref fN))
    (FD : Fun K "is_direction" "is_direction" sDir fD fdD) (bD : Binds K fdD ["p", "n", "v"] []) (gD : mg "is_direction" = some (.ref fD))
    (T : Txt K mg aP tM tW tN) : FnOk P w K mg base CX0 (k + 4) f fd ["p", "n"] spAll := by
  have GC : FnOk P w K mg base CX0 (k + 3) fC fdC ["p", "n"] spCount := ok_count FC T
  have GD : FnOk P w K mg base CX0 (k + 3) fD fdD ["p", "n", "v"] spDir := ok_dir FD FC bC gC FP bP gP FN bN gN T
  refine F.ok scAll (fun vs H Q E h => ?_) (fun cdv A outer s H vs Q E hr h => ?_)
  · obtain ⟨p, n, rfl, _⟩ := h
    rfl
  · obtain ⟨p, n, rfl, h0, hp, hn, hpow, q⟩ := h
    refine ⟨_, pss_one (ps_ret (pe_lc (own := [("point", 2)]) (g := gName 2) (tt := tTest (tCall spDir [] E0 (tCons (tVar 0) (tCons (tVar 1) (tCons (tVar 2) tNil))))) (te := tVar 2) (by rfl) scAll.nd
        (pi_range1 (by rfl) T.range (pa_cons (pe_call GC hr (by rfl) gC FC.kp bC .nil pass0 (pa_cons (pv 0) (pa_cons (pv 1) pa_nil))) pa_nil))
        (blkOk_by (own := [("point", 2)]) (N := ["p", "n", "point"]) (sc := defScope sAll) (by decide +kernel))
        (fun _ _ _ _ _ => pg_name (i := 2) scAll.nd rfl (.inl rfl))
        (fun _ _ _ _ _ => pts_one (pt_val (pe_call GD hr (by rfl) gD FD.kp bD .nil pass0 (pa_cons (pv 0) (pa_cons (pv 1) (pa_cons (pv 2) pa_nil))))))
        (fun _ _ _ _ _ => pv 2))), ?_⟩
    refine ⟨iv p, rfl, iv n, rfl, p, n, rfl, hp, hn, ((p ^ n : Nat) : Int), rfl, by omega, by omega, fun D nD => lc_range (lo := 0) (n := (((p ^ n : Nat) : Int)).toNat) (fun j H3 => Same H H3 ∧ H3 D = some (.lst (ivs ((List.range j).filter (isDir p n))))) ⟨same_upd nD, upd_same⟩ ?_ ?_⟩
    · rintro j H3 hj ⟨sm3, hD⟩
      rw [Int.toNat_natCast] at hj
      have ej : V.int (0 + (j : Int)) = iv j := congrArg V.int (Int.zero_add _)
      rw [ej]
      refine ⟨rfl, ?_⟩
      refine ⟨iv p, rfl, iv n, rfl, iv j, rfl, p, n, j, rfl, h0, hp, hn, fun H4 sm4 => ⟨_, rfl, ?_⟩⟩
      have hD4 := sm4 _ _ hD
      cases hd : isDir p n j with
      | true =>
        refine iteT ?_
        refine ⟨iv j, rfl, _, hD4, ?_, same_new (sm3.trans sm4) nD, ?_⟩
        · rw [ivs_length]
          refine sz (Nat.le_trans (List.length_filter_le _ _) ?_)
          rw [List.length_range]
          omega
        · rw [upd_same, filter_succ, hd, ivs_append]
          rfl
      | false =>
        refine iteF ?_
        refine ⟨sm3.trans sm4, ?_⟩
        rw [filter_succ, hd]
        show _ = some (HO.lst (ivs (_ ++ [])))
        rw [List.append_nil]
        exact hD4
    · rintro H3 ⟨sm3, hD⟩
      rw [Int.toNat_natCast, ← directions_eq] at hD
      exact q H3 D sm3 nD hD
end
end KM
namespace KM
open PySem PySem.Spec PyProof.Rows L2
def spSet (K : PySem.W.Frag) : Sp := fun vs H Q _ => ∃ (p n : Nat) (a : Addr) (s : List Nat), vs = [iv p, iv n, .ref a] ∧ SqL K H a (ivs s) ∧ p ≤ 7 ∧ n ≤ 3 ∧ Q (.bl (Kzt1.okSet p n s)) H
section
variable {P : Program} {w : World} {K : PySem.W.Frag} {mg : Str → Option Value} {base : Heap} {aP : Addr} {tM tW tN : Nat}
theorem scSet : FnScope ["p", "n", "s", "count", "last", "point"] ["p", "n", "s"] (defScope sSet) := ⟨rfl, rfl, rfl, by decide +kernel, rfl, by decide +kernel, by decide +kernel⟩
theorem ok_set {f fC : Addr} {fd fdC : FuncData} {k : Nat} (F : Fun K "is_set" "is_set" sSet f fd)
    (FC : Fun K "count_points" "count_points" sCount fC fdC) (bC : Binds K fdC ["p", "n"] []) (gC : mg "count_points" = some (.ref fC))
    (T : Txt K mg aP tM tW tN) : FnOk P w K mg base CX0 (k + 2) f fd ["p", "n", "s"] (spSet K) := by
  have GC : FnOk P w K mg base CX0 (k + 1) fC fdC ["p", "n"] spCount := ok_count FC T
  refine F.ok scSet (fun vs H Q E h => ?_) (fun cdv A outer s H vs Q E hr h => ?_)
  · obtain ⟨p, n, a, s, rfl, _⟩ := h
    rfl
  · obtain ⟨p, n, a, s, rfl, hs, hp, hn, q⟩ := h
    refine ⟨_, pss_cons (ps_set (i := 3) scSet.nd rfl (.inl rfl) (pe_call GC hr (by rfl) gC FC.kp bC .nil pass0 (pa_cons (pv 0) (pa_cons (pv 1) pa_nil))))
      (pss_cons (ps_set (i := 4) scSet.nd rfl (.inl rfl) (pe_un un_neg pe_int))
      (pss_cons (ps_for PassesOwn.never rfl (pi_list (pv 2)) (pg_name (i := 5) scSet.nd rfl (.inl rfl))
        (pss_cons (ps_if (pt_not (pt_chain op_lt op_lt (pv 4) (pv 5) (pv 3))) (pss_one (ps_ret pe_bl)) pss_nil)
        (pss_one (ps_set (i := 4) scSet.nd rfl (.inl rfl) (pv 5)))))
      (pss_one (ps_ret pe_bl)))), ?_⟩
    refine ⟨iv p, rfl, iv n, rfl, p, n, rfl, hp, hn, 1, rfl, .ref a, rfl, a, rfl, ⟨_, hs⟩, for_list (K := K) (a := a) (xs := ivs s) (fun i σ H' => ∃ (m : Int) (y : Option V), σ = [some (iv p), some (iv n), some (.ref a), some (iv (p ^ n)), some (.int m), y] ∧ H' = H ∧ okFrom (p ^ n) m (s.drop i) = Kzt1.okSet p n s)
      ⟨-1, none, rfl, rfl, okFrom_set p n s⟩ ?_ ?_ ?_⟩
    · rintro i σ H' _ ⟨_, _, _, rfl, _⟩
      exact hs
    · rintro i x σ H' hi ⟨m, y, rfl, rfl, ho⟩
      obtain ⟨c, hc, rfl⟩ := ivs_at hi
      obtain ⟨hlt, ec⟩ := List.getElem?_eq_some_iff.mp hc
      rw [List.drop_eq_getElem_cons hlt, ec] at ho
      have ho' : (decide (m < (c : Int)) && decide ((c : Int) < ((p ^ n : Nat) : Int)) && okFrom (p ^ n) (c : Int) (s.drop (i + 1))) = Kzt1.okSet p n s := ho
      have bad : Kzt1.okSet p n s = false → Q (.bl false) H' := fun e => by
        rw [e] at q
        exact q
      refine ⟨.int m, rfl, iv c, rfl, m, c, rfl, rfl, _, rfl, ?_⟩
      by_cases h1 : m < (c : Int)
      · rw [decide_eq_true h1] at ho' ⊢
        refine iteT ?_
        refine ⟨iv (p ^ n), rfl, c, (p ^ n : Nat), rfl, rfl, _, rfl, ?_⟩
        by_cases h2 : (c : Int) < ((p ^ n : Nat) : Int)
        · rw [decide_eq_true h2] at ho' ⊢
          refine iteF ?_
          exact ⟨iv c, rfl, (c : Int), some (iv c), rfl, rfl, by simpa using ho'⟩
        · rw [decide_eq_false h2] at ho' ⊢
          refine iteT ?_
          exact bad (by rw [← ho']; rfl)
      · rw [decide_eq_false h1] at ho' ⊢
        refine iteF ?_
        refine ⟨_, rfl, ?_⟩
        refine iteT ?_
        exact bad (by rw [← ho']; rfl)
    · rintro σ H' ⟨m, y, rfl, rfl, ho⟩
      rw [ivs_length, List.drop_length] at ho
      have e : Kzt1.okSet p n s = true := ho.symm
      rw [e] at q
      exact q
end
end KM
namespace KM
open PySem PySem.Spec PyProof.Rows L2
open Kzt1 (coords total monos)
theorem ivs_nI (l : List Nat) : (nI l).map V.int = ivs l := by
  unfold nI ivs
  rw [List.map_map]
  rfl
theorem ivs_cons (x : Nat) (l : List Nat) : ivs (x :: l) = iv x :: ivs l := rfl
theorem cut_tail (t : List Nat) : cutV (ivs t) (some 1) none = ivs t.tail := by
  unfold cutV
  rw [show (some (1 : Int)) = some ((1 : Nat) : Int) from rfl, HT.sIx_nat, HT.sIx_none, ivs_length]
  cases t with
  | nil => rfl
  | cons x t =>
    rw [List.length_cons, Nat.min_eq_left (by omega), ivs_cons, List.drop_succ_cons, List.drop_zero, List.tail_cons]
    apply List.take_of_length_le
    rw [ivs_length]
    omega
/-- a list of lists: the objects rs hold the rows ts -/
def Rows (H : Hp) (rs : List V) (ts : List (List Nat)) : Prop := Paired (fun v t => ∃ r, v = V.ref r ∧ H r = some (.lst (ivs t))) rs ts
theorem Rows.same {H H' : Hp} {rs : List V} {ts : List (List Nat)} (h : Rows H rs ts) (s : Same H H') : Rows H' rs ts :=
  Paired.mono (fun v t ⟨r, e, hr⟩ => ⟨r, e, s _ _ hr⟩) h
theorem Rows.len {H : Hp} {rs : List V} {ts : List (List Nat)} (h : Rows H rs ts) : rs.length = ts.length := Paired.length h
theorem Rows.at {H : Hp} : ∀ {rs : List V} {ts : List (List Nat)} {i : Nat} {x : V}, Rows H rs ts → rs[i]? = some x → ∃ r t, x = V.ref r ∧ ts[i]? = some t ∧ H r = some (.lst (ivs t))
  | _, _, _, _, .nil, e => by simp at e
  | _, _, 0, _, .cons ⟨r, e1, e2⟩ _, e => by
    simp only [List.getElem?_cons_zero, Option.some.injEq] at e
    subst e
    exact ⟨r, _, e1, rfl, e2⟩
  | _, _, i + 1, _, .cons _ t, e => by
    rw [List.getElem?_cons_succ] at e ⊢
    exact Rows.at t e
theorem Rows.snoc {H : Hp} {rs : List V} {ts : List (List Nat)} {r : Addr} {t : List Nat} (h : Rows H rs ts) (hr : H r = some (.lst (ivs t))) : Rows H (rs ++ [V.ref r]) (ts ++ [t]) := Paired.snoc h ⟨r, rfl, hr⟩
theorem take_get {α : Type} {l : List α} {i : Nat} {x : α} (h : l[i]? = some x) : l.take (i + 1) = l.take i ++ [x] := by
  rw [List.take_add_one, h]
  rfl

def spDeg : Sp := fun vs H Q _ => ∃ (a : Addr) (t : List Nat), vs = [.ref a] ∧ H a = some (.lst (ivs t)) ∧ ∀ H' : Hp, Same H H' → Q (iv (total t.tail)) H'
def spRank : Sp := fun vs H Q _ => ∃ (a : Addr) (t : List Nat), vs = [.ref a] ∧ H a = some (.lst (ivs t)) ∧ t.length ≤ 1000 ∧ ∀ (H' : Hp) (q : Addr), Same H H' → H q = none → H' q = some (.lst ((rankI t.tail).map V.int)) → Q (.ref q) H'
section
variable {P : Program} {w : World} {K : PySem.W.Frag} {mg : Str → Option Value} {base : Heap} {aP : Addr} {tM tW tN : Nat}
theorem scDeg : FnScope ["term"] ["term"] (defScope sDeg) := ⟨rfl, rfl, rfl, by decide +kernel, rfl, by decide +kernel, by decide +kernel⟩
theorem ok_deg {f : Addr} {fd : FuncData} {k : Nat} (F : Fun K "degree_of_term" "degree_of_term" sDeg f fd) (ms : mg "sum" = none) : FnOk P w K mg base CX0 (k + 1) f fd ["term"] spDeg := by
  refine F.ok scDeg (fun vs H Q E h => ?_) (fun cdv A outer s H vs Q E hr h => ?_)
  · obtain ⟨a, t, rfl, _⟩ := h
    rfl
  · obtain ⟨a, t, rfl, ha, q⟩ := h
    refine ⟨_, pss_one (ps_ret (pe_callB (cr_sum rfl) (by rfl) ms (by decide +kernel) (pa_cons (pe_slice sl_list (pv 0) (po_some pe_int) po_none) pa_nil))), ?_⟩
    refine ⟨.ref a, rfl, 1, rfl, a, _, rfl, SqL.of ha, fun p np => ?_⟩
    refine ⟨p, nI t.tail, rfl, SqL.of (by rw [upd_same, cut_tail, ivs_nI]), ?_⟩
    rw [sum_nI]
    exact q _ (same_upd np)
theorem scRank : FnScope ["term"] ["term"] (defScope sRank) := ⟨rfl, rfl, rfl, by decide +kernel, rfl, by decide +kernel, by decide +kernel⟩
theorem ok_rank {f fD : Addr} {fd fdD : FuncData} {k : Nat} (F : Fun K "rank_of_term" "rank_of_term" sRank f fd)
    (FD : Fun K "degree_of_term" "degree_of_term" sDeg fD fdD) (bD : Binds K fdD ["term"] []) (gD : mg "degree_of_term" = some (.ref fD)) (ms : mg "sum" = none) : FnOk P w K mg base CX0 (k + 2) f fd ["term"] spRank := by
  have GD : FnOk P w K mg base CX0 (k + 1) fD fdD ["term"] spDeg := ok_deg FD ms
  refine F.ok scRank (fun vs H Q E h => ?_) (fun cdv A outer s H vs Q E hr h => ?_)
  · obtain ⟨a, t, rfl, _⟩ := h
    rfl
  · obtain ⟨a, t, rfl, ha, hlen, q⟩ := h
    refine ⟨_, pss_one (ps_ret (pe_op op_cat (pe_lst (pa_cons (pe_call GD hr (by rfl) gD FD.kp bD .nil pass0 (pa_cons (pv 0) pa_nil)) pa_nil)) (pe_slice sl_list (pv 0) (po_some pe_int) po_none))), ?_⟩
    refine ⟨.ref a, rfl, a, t, rfl, ha, fun H1 sm1 => ?_⟩
    refine ⟨by show 1 ≤ sizeLine; decide, fun l nl => ?_⟩
    have ha2 := (same_upd (o := .lst [iv (total t.tail)]) nl) _ _ (sm1 _ _ ha)
    refine ⟨.ref a, rfl, 1, rfl, a, _, rfl, SqL.of ha2, fun p np => ?_⟩
    have hpl : p ≠ l := ne_free upd_same np
    refine ⟨l, p, _, _, rfl, rfl, (by rw [upd_ne hpl.symm, upd_same]), upd_same, ?_, fun r nr => ?_⟩
    · rw [cut_tail, ivs_length, List.length_tail]
      show 1 + (t.length - 1) ≤ _
      exact Nat.le_of_lt (sz (by omega))
    · refine q _ r ((sm1.trans (same_upd nl)).trans ((same_upd np).trans (same_upd nr))) ?_ ?_
      · exact ((sm1.trans (same_upd nl)).trans (same_upd np)).free nr
      · rw [upd_same, cut_tail]
        unfold rankI
        rw [ivs_nI]
        rfl
end
end KM
namespace KM
open PySem PySem.Spec PyProof.Rows L2
open Kzt1 (coords total monos)
theorem Rows.upd {H : Hp} {rs : List V} {ts : List (List Nat)} {D : Addr} {o : HO} (h : Rows H rs ts) (hd : V.ref D ∉ rs) : Rows (upd H D o) rs ts := by
  unfold Rows at h ⊢
  induction h with
  | nil => exact .nil
  | @cons v t l1 l2 hv ht ih =>
    obtain ⟨r, rfl, hr⟩ := hv
    refine .cons ⟨r, rfl, ?_⟩ (ih fun z => hd (List.mem_cons_of_mem _ z))
    rw [upd_ne (fun e => hd (by rw [e]; exact List.mem_cons_self))]
    exact hr
def natV : V → Nat
  | .int i => i.toNat
  | _ => 0
/-- the row that stands at an object -/
def look (H : Hp) : V → List Nat
  | .ref r => match H r with
    | some (.lst l) => l.map natV
    | _ => []
  | _ => []
theorem natV_ivs (t : List Nat) : (ivs t).map natV = t := by
  unfold ivs
  rw [List.map_map]
  conv => rhs; rw [← List.map_id t]
  apply List.map_congr_left
  intro x _
  show ((x : Int)).toNat = x
  omega
theorem look_of {H : Hp} {r : Addr} {t : List Nat} (h : H r = some (.lst (ivs t))) : look H (.ref r) = t := by
  unfold look
  simp only [h, natV_ivs]
theorem Rows.looks {H : Hp} {rs : List V} {ts : List (List Nat)} (h : Rows H rs ts) : rs.map (look H) = ts ∧ ∀ x ∈ rs, ∃ r, x = V.ref r ∧ H r = some (.lst (ivs (look H x))) := by
  unfold Rows at h
  induction h with
  | nil => exact ⟨rfl, fun x hx => by cases hx⟩
  | @cons v t l1 l2 hv ht ih =>
    obtain ⟨r, rfl, hr⟩ := hv
    refine ⟨by rw [List.map_cons, look_of hr, ih.1], fun x hx => ?_⟩
    rcases List.mem_cons.mp hx with rfl | hx
    · exact ⟨r, rfl, by rw [look_of hr]; exact hr⟩
    · exact ih.2 x hx
theorem Rows.of_looks {H : Hp} : ∀ {rs : List V}, (∀ x ∈ rs, ∃ r, x = V.ref r ∧ H r = some (.lst (ivs (look H x)))) → Rows H rs (rs.map (look H))
  | [], _ => .nil
  | x :: rs, h => .cons (h x List.mem_cons_self) (Rows.of_looks fun y hy => h y (List.mem_cons_of_mem _ hy))
theorem Rows.filter {H : Hp} (f : List Nat → Bool) : ∀ {rs : List V} {ts : List (List Nat)}, Rows H rs ts → Rows H (rs.filter fun x => f (look H x)) (ts.filter f)
  | _, _, .nil => .nil
  | _, _, .cons (a := v) (b := t) hv ht => by
    have ih := Rows.filter f ht
    obtain ⟨r, rfl, hr⟩ := hv
    cases e : f t with
    | true =>
      rw [List.filter_cons_of_pos (by rw [look_of hr]; exact e), List.filter_cons_of_pos e]
      exact .cons ⟨r, rfl, hr⟩ ih
    | false =>
      rw [List.filter_cons_of_neg (by rw [look_of hr, e]; exact Bool.false_ne_true), List.filter_cons_of_neg (by rw [e]; exact Bool.false_ne_true)]
      exact ih
end KM
namespace KM
open PySem PySem.Spec PyProof.Rows L2
open Kzt1 (coords total monos)
theorem sorted_rows {H : Hp} {p n : Nat} (hp : 0 < p) {xs : List V} (h : Rows H xs ((lowRaw p n).map fun e => 1 :: e)) :
    Rows H (xs.mergeSort fun x y => decide (rankI (look H x).tail ≤ rankI (look H y).tail)) ((monos p n (p - 1)).map fun e => 1 :: e) := by
  obtain ⟨h1, h2⟩ := h.looks
  have hperm := List.mergeSort_perm xs fun x y => decide (rankI (look H x).tail ≤ rankI (look H y).tail)
  have hsort := List.pairwise_mergeSort (le := fun x y => decide (rankI (look H x).tail ≤ rankI (look H y).tail)) (fun a b c h1 h2 => by
      rw [decide_eq_true_eq] at h1 h2 ⊢
      exact List.le_trans h1 h2) (fun a b => by
      rw [Bool.or_eq_true, decide_eq_true_eq, decide_eq_true_eq]
      exact List.le_total _ _) xs
  generalize xs.mergeSort (fun x y => decide (rankI (look H x).tail ≤ rankI (look H y).tail)) = ys at hperm hsort
  have r := Rows.of_looks (rs := ys) fun x hx => h2 x (hperm.mem_iff.mp hx)
  have e1 : (ys.map (look H)).map List.tail = monos p n (p - 1) := by
    refine low_eq hp ?_ ?_
    · have := (hperm.map (look H)).map List.tail
      have e : ((lowRaw p n).map fun e => 1 :: e).map List.tail = lowRaw p n := by
        rw [List.map_map]
        conv => rhs; rw [← List.map_id (lowRaw p n)]
        apply List.map_congr_left
        intro x _
        rfl
      rw [h1, e] at this
      exact this
    · rw [List.map_map, List.pairwise_map]
      refine hsort.imp fun {x y} hxy => ?_
      rw [decide_eq_true_eq] at hxy
      exact fun z => List.not_lt.mpr hxy z
  have e2 : ys.map (look H) = (monos p n (p - 1)).map fun e => 1 :: e := by
    rw [← e1, List.map_map, List.map_map]
    apply List.map_congr_left
    intro x hx
    have hm : look H x ∈ xs.map (look H) := List.mem_map.mpr ⟨x, hperm.mem_iff.mp hx, rfl⟩
    rw [h1] at hm
    obtain ⟨e, _, he⟩ := List.mem_map.mp hm
    show look H x = 1 :: (look H x).tail
    rw [← he]
    rfl
  rw [e2] at r
  exact r
def spLow : Sp := fun vs H Q _ => ∃ p n : Nat, vs = [iv p, iv n] ∧ 0 < p ∧ p ≤ 7 ∧ n ≤ 3 ∧ p ^ n ≤ 343 ∧ ∀ (H' : Hp) (a : Addr) (rs : List V), Same H H' → H a = none → H' a = some (.lst rs) → Rows H' rs ((monos p n (p - 1)).map fun e => 1 :: e) → Q (.ref a) H'
theorem lowRaw_take (p n j : Nat) : ((((List.range (p ^ n)).map fun x => 1 :: coords p n x).take j).filter fun t => decide (total t.tail < p)) = (((((List.range (p ^ n)).map (coords p n)).take j).filter fun e => decide (total e < p)).map fun e => 1 :: e) := by
  rw [← List.map_take, ← List.map_take, List.filter_map, List.filter_map, List.map_map]
  rfl
section
variable {P : Program} {w : World} {K : PySem.W.Frag} {mg : Str → Option Value} {base : Heap} {aP : Addr} {tM tW tN : Nat}
theorem scLow : FnScope ["p", "n", "terms", "point", "term"] ["p", "n"] (defScope sLow) := ⟨rfl, rfl, rfl, by decide +kernel, rfl, by decide +kernel, by decide +kernel⟩
theorem ok_low {f fC fN fD fR : Addr} {fd fdC fdN fdD fdR : FuncData} {k : Nat} (F : Fun K "low_terms" "low_terms" sLow f fd)
    (FC : Fun K "count_points" "count_points" sCount fC fdC) (bC : Binds K fdC ["p", "n"] []) (gC : mg "count_points" = some (.ref fC))
    (FN : Fun K "numbers_of_point" "numbers_of_point" sNums fN fdN) (bN : Binds K fdN ["p", "n", "point"] []) (gN : mg "numbers_of_point" = some (.ref fN))
    (FD : Fun K "degree_of_term" "degree_of_term" sDeg fD fdD) (bD : Binds K fdD ["term"] []) (gD : mg "degree_of_term" = some (.ref fD))
    (FR : Fun K "rank_of_term" "rank_of_term" sRank fR fdR) (bR : Binds K fdR ["term"] []) (gR : mg "rank_of_term" = some (.ref fR))
    (ms : mg "sum" = none) (mo : mg "sorted" = none) (T : Txt K mg aP tM tW tN) : FnOk P w K mg base CX0 (k + 4) f fd ["p", "n"] spLow := by
  have GC : FnOk P w K mg base CX0 (k + 3) fC fdC ["p", "n"] spCount := ok_count FC T
  have GN : FnOk P w K mg base CX0 (k + 3) fN fdN ["p", "n", "point"] spNums := ok_nums FN T
  have GD : FnOk P w K mg base CX0 (k + 3) fD fdD ["term"] spDeg := ok_deg FD ms
  have GR : FnOk P w K mg base CX0 (k + 2) fR fdR ["term"] spRank := ok_rank FR FD bD gD ms
  refine F.ok scLow (fun vs H Q E h => ?_) (fun cdv A outer s H vs Q E hr h => ?_)
  · obtain ⟨p, n, rfl, _⟩ := h
    rfl
  · obtain ⟨p, n, rfl, h0, hp, hn, hw, q⟩ := h
    refine ⟨_, pss_cons (ps_setLc (i := 2) (own := [("point", 3)]) (g := gName 3) (tt := tYes) (te := tOp rCat (tLst (tCons (tC (.int 1)) tNil)) (tCall spNums [] E0 (tCons (tVar 0) (tCons (tVar 1) (tCons (tVar 3) tNil))))) (by rfl) scLow.nd rfl rfl (sw_true rfl rfl rfl (by decide +kernel))
          (pi_range1 (by rfl) T.range (pa_cons (pe_call GC hr (by rfl) gC FC.kp bC .nil pass0 (pa_cons (pv 0) (pa_cons (pv 1) pa_nil))) pa_nil))
          (blkOk_by (own := [("point", 3)]) (N := ["p", "n", "terms", "point", "term"]) (sc := defScope sLow) (by decide +kernel))
          (fun _ _ _ _ _ => pg_name (i := 3) scLow.nd rfl (.inl rfl)) (fun _ _ _ _ _ => pts_nil)
          (fun _ _ _ _ _ => pe_op op_cat (pe_lst (pa_cons pe_int pa_nil)) (pe_call GN hr (by rfl) gN FN.kp bN .nil pass0 (pa_cons (pv 0) (pa_cons (pv 1) (pa_cons (pv 3) pa_nil))))))
      (pss_one (ps_ret (pe_callBK (cr_sortK GR hr bR) (by rfl) mo (by decide +kernel) (pa_cons
          (pe_lc (own := [("term", 4)]) (g := gName 4) (tt := tTest (tOp (rI0 fun i j => .bl (decide (i < j))) (tCall spDeg [] E0 (tCons (tVar 4) tNil)) (tVar 0))) (te := tVar 4) (by rfl) scLow.nd
            (pi_list (pv 2))
            (blkOk_by (own := [("term", 4)]) (N := ["p", "n", "terms", "point", "term"]) (sc := defScope sLow) (by decide +kernel))
            (fun _ _ _ _ _ => pg_name (i := 4) scLow.nd rfl (.inl rfl))
            (fun _ _ _ _ _ => pts_one (pt_cmpR op_lt (pe_call GD hr (by rfl) gD FD.kp bD .nil pass0 (pa_cons (pv 4) pa_nil)) (pv 0) (nomark _)))
            (fun _ _ _ _ _ => pv 4)) pa_nil) (pk_cons (pe_glob (v := .ref fR) (by rfl) gR rfl) pk_nil)))), ?_⟩
    refine ⟨iv p, rfl, iv n, rfl, p, n, rfl, hp, hn, ((p ^ n : Nat) : Int), rfl, by omega, by omega, fun D nD => lc_range (lo := 0) (n := (((p ^ n : Nat) : Int)).toNat) (fun j H3 => Same H H3 ∧ ∃ rs, H3 D = some (.lst rs) ∧ V.ref D ∉ rs ∧ Rows H3 rs ((List.range j).map fun x => 1 :: coords p n x)) ⟨same_upd nD, [], upd_same, by simp, .nil⟩ ?_ ?_⟩
    · rintro j H3 hj ⟨sm3, rs, hD, hne, hrs⟩
      rw [Int.toNat_natCast] at hj
      have hlen := hrs.len
      rw [List.length_map, List.length_range] at hlen
      have ej : V.int (0 + (j : Int)) = iv j := congrArg V.int (Int.zero_add _)
      rw [ej]
      refine ⟨rfl, ?_⟩
      unfold tYes
      refine iteT ?_
      refine ⟨by show 1 ≤ sizeLine; decide, fun l nl => ?_⟩
      refine ⟨iv p, rfl, iv n, rfl, iv j, rfl, p, n, j, rfl, h0, hp, hn, fun H4 b sm4 nb hb => ?_⟩
      have hl4 := sm4 _ _ (upd_same (H := H3) (a := l) (o := .lst [V.int 1]))
      have sm34 := (same_upd nl).trans sm4
      refine ⟨l, b, _, _, rfl, rfl, hl4, hb, ?_, fun r nr => ?_⟩
      · rw [ivs_length, coords_length]
        show 1 + n ≤ _
        exact Nat.le_of_lt (sz (by omega))
      · have sm5 := sm34.trans (same_upd (o := .lst ([V.int 1] ++ ivs (coords p n j))) nr)
        have hD5 := sm5 _ _ hD
        have hrD : r ≠ D := (ne_free (sm34 _ _ hD) nr)
        refine ⟨rs, hD5, ?_, same_new (sm3.trans sm5) nD, rs ++ [.ref r], upd_same, ?_, ?_⟩
        · exact sz (by omega)
        · intro hm
          rcases List.mem_append.mp hm with hm | hm
          · exact hne hm
          · exact hrD (V.ref.inj (List.mem_singleton.mp hm)).symm
        · rw [List.range_succ, List.map_append]
          refine Rows.upd (Rows.snoc (hrs.same sm5) ?_) ?_
          · rw [upd_same]
            rfl
          · intro hm
            rcases List.mem_append.mp hm with hm | hm
            · exact hne hm
            · exact hrD (V.ref.inj (List.mem_singleton.mp hm)).symm
    · rintro H3 ⟨sm3, rs, hD, hne, hrs⟩
      rw [Int.toNat_natCast] at hrs
      have hlen := hrs.len
      rw [List.length_map, List.length_range] at hlen
      refine ⟨.ref D, rfl, D, rfl, ⟨_, SqL.of hD⟩, fun D2 nD2 => ?_⟩
      refine lc_list (K := K) (a := D) (xs := rs) (fun j H4 => Same H3 H4 ∧ ∃ rs2, H4 D2 = some (.lst rs2) ∧ Rows H3 rs2 ((((List.range (p ^ n)).map fun x => 1 :: coords p n x).take j).filter fun t => decide (total t.tail < p))) ⟨same_upd nD2, [], upd_same, .nil⟩ ?_ ?_ ?_
      · rintro j H4 _ ⟨sm4, _⟩
        exact sm4.seq (SqL.of hD)
      · rintro j x H4 hj ⟨sm4, rs2, hD2, hr2⟩
        obtain ⟨r, t, rfl, ht, hrt⟩ := Rows.at hrs hj
        have hlen2 := hr2.len
        have hle : rs2.length ≤ j := by
          rw [hlen2]
          refine Nat.le_trans (List.length_filter_le _ _) ?_
          rw [List.length_take]
          omega
        have hjl : j < rs.length := (List.getElem?_eq_some_iff.mp hj).1
        refine ⟨rfl, ?_⟩
        refine ⟨.ref r, rfl, r, t, rfl, sm4 _ _ hrt, fun H5 sm5 => ⟨iv p, rfl, _, _, rfl, rfl, _, rfl, ?_⟩⟩
        have e : decide (((total t.tail : Nat) : Int) < (p : Int)) = decide (total t.tail < p) := decide_eq_decide.mpr (by omega)
        show if decide (((total t.tail : Nat) : Int) < (p : Int)) = true then _ else _
        rw [e]
        have hD5 := sm5 _ _ hD2
        cases hc : decide (total t.tail < p) with
        | true =>
          refine iteT ?_
          refine ⟨.ref r, rfl, rs2, hD5, sz (by omega), same_new (sm4.trans sm5) nD2, rs2 ++ [.ref r], upd_same, ?_⟩
          rw [take_get ht, List.filter_append]
          have e2 : [t].filter (fun t => decide (total t.tail < p)) = [t] := by simp [of_decide_eq_true hc]
          rw [e2]
          exact Rows.snoc hr2 hrt
        | false =>
          refine iteF ?_
          refine ⟨sm4.trans sm5, rs2, hD5, ?_⟩
          rw [take_get ht, List.filter_append]
          have e2 : [t].filter (fun t => decide (total t.tail < p)) = [] := by simp [of_decide_eq_false hc]
          rw [e2, List.append_nil]
          exact hr2
      · rintro H4 ⟨sm4, rs2, hD2, hr2⟩
        rw [hlen, lowRaw_take, List.take_of_length_le (by rw [List.length_map, List.length_range]; exact Nat.le_refl _)] at hr2
        have hr4 : Rows H4 rs2 ((lowRaw p n).map fun e => 1 :: e) := hr2.same sm4
        refine ⟨D2, rs2, fun x => rankI (look H4 x).tail, rfl, rfl, SqL.of hD2, fun x hx H5 sm5 W hW => ?_, fun H5 b sm5 nb hb => ?_⟩
        · obtain ⟨r, rfl, hr⟩ := hr4.looks.2 x hx
          refine ⟨r, look H4 (.ref r), rfl, sm5 _ _ hr, ?_, fun H6 c sm6 nc hc => hW H6 c sm6 nc hc⟩
          obtain ⟨i, hi, e⟩ := List.mem_iff_getElem.mp hx
          obtain ⟨r2, t, e2, ht, hr2'⟩ := Rows.at hr4 (List.getElem?_eq_getElem hi)
          rw [e] at e2
          obtain rfl := V.ref.inj e2
          rw [look_of hr2']
          have hmem := List.mem_of_getElem? ht
          obtain ⟨y, hy, rfl⟩ := List.mem_map.mp hmem
          have := (monos_mem.mp ((lowRaw_mem h0).mp hy)).1.1
          show y.length + 1 ≤ 1000
          omega
        · exact q H5 b _ (sm3.trans (sm4.trans sm5)) (sm3.free (sm4.free nb)) hb ((sorted_rows h0 hr4).same sm5)
end
end KM
namespace KM
open PySem PySem.Spec PyProof.Rows L2
open Kzt1 (total)
def spHigh : Sp := fun vs H Q _ => ∃ (a : Addr) (rs : List V) (ts : List (List Nat)), vs = [.ref a] ∧ H a = some (.lst rs) ∧ Rows H rs ts ∧ ts.length ≤ 1000 ∧ ∀ (H' : Hp) (b : Addr) (rs' : List V), Same H H' → H b = none → H' b = some (.lst rs') → Rows H' rs' (hiT ts) → Q (.ref b) H'
theorem nI_append (a b : List Nat) : nI (a ++ b) = nI a ++ nI b := List.map_append ..
section
variable {P : Program} {w : World} {K : PySem.W.Frag} {mg : Str → Option Value} {base : Heap}
theorem scHigh : FnScope ["terms", "degree", "term"] ["terms"] (defScope sHigh) := ⟨rfl, rfl, rfl, by decide +kernel, rfl, by decide +kernel, by decide +kernel⟩
theorem ok_high {f fD : Addr} {fd fdD : FuncData} {k : Nat} (F : Fun K "highest_terms" "highest_terms" sHigh f fd)
    (FD : Fun K "degree_of_term" "degree_of_term" sDeg fD fdD) (bD : Binds K fdD ["term"] []) (gD : mg "degree_of_term" = some (.ref fD)) (ms : mg "sum" = none) (mx : mg "max" = none) : FnOk P w K mg base CX0 (k + 2) f fd ["terms"] spHigh := by
  have GD : FnOk P w K mg base CX0 (k + 1) fD fdD ["term"] spDeg := ok_deg FD ms
  refine F.ok scHigh (fun vs H Q E h => ?_) (fun cdv A outer s H vs Q E hr h => ?_)
  · obtain ⟨a, rs, ts, rfl, _⟩ := h
    rfl
  · obtain ⟨a, rs, ts, rfl, ha, hrs, hlen, q⟩ := h
    have hl := hrs.len
    refine ⟨_, pss_cons (ps_set (i := 1) scHigh.nd rfl (.inr rfl) (pe_callBK (cr_maxD rfl) (by rfl) mx (by decide +kernel) (pa_cons
          (pe_lc (own := [("term", 2)]) (g := gName 2) (tt := tYes) (te := tCall spDeg [] E0 (tCons (tVar 2) tNil)) (by rfl) scHigh.nd (pi_list (pv 0))
            (blkOk_by (own := [("term", 2)]) (N := ["terms", "degree", "term"]) (sc := defScope sHigh) (by decide +kernel))
            (fun _ _ _ _ _ => pg_name (i := 2) scHigh.nd rfl (.inl rfl)) (fun _ _ _ _ _ => pts_nil)
            (fun _ _ _ _ _ => pe_call GD hr (by rfl) gD FD.kp bD .nil pass0 (pa_cons (pv 2) pa_nil))) pa_nil) (pk_cons pe_int pk_nil)))
      (pss_one (ps_ret (pe_lc (own := [("term", 2)]) (g := gName 2) (tt := tTest (tOp rEq (tCall spDeg [] E0 (tCons (tVar 2) tNil)) (tVar 1))) (te := tVar 2) (by rfl) scHigh.nd (pi_list (pv 0))
            (blkOk_by (own := [("term", 2)]) (N := ["terms", "degree", "term"]) (sc := defScope sHigh) (by decide +kernel))
            (fun _ _ _ _ _ => pg_name (i := 2) scHigh.nd rfl (.inl rfl))
            (fun _ _ _ _ _ => pts_one (pt_cmpR op_eq (pe_call GD hr (by rfl) gD FD.kp bD .nil pass0 (pa_cons (pv 2) pa_nil)) (pv 1) (nomark _)))
            (fun _ _ _ _ _ => pv 2)))), ?_⟩
    refine ⟨.ref a, rfl, a, rfl, ⟨_, SqL.of ha⟩, fun D nD => ?_⟩
    refine lc_list (K := K) (a := a) (xs := rs) (fun j H3 => Same H H3 ∧ H3 D = some (.lst (ivs ((ts.take j).map fun t => total t.tail)))) ⟨same_upd nD, upd_same⟩ ?_ ?_ ?_
    · rintro j H3 _ ⟨sm3, _⟩
      exact sm3.seq (SqL.of ha)
    · rintro j x H3 hj ⟨sm3, hD⟩
      obtain ⟨r, t, rfl, ht, hrt⟩ := Rows.at hrs hj
      refine ⟨rfl, ?_⟩
      unfold tYes
      refine iteT ?_
      refine ⟨.ref r, rfl, r, t, rfl, sm3 _ _ hrt, fun H4 sm4 => ?_⟩
      refine ⟨_, sm4 _ _ hD, ?_, same_new (sm3.trans sm4) nD, ?_⟩
      · rw [ivs_length, List.length_map, List.length_take]
        exact sz (by omega)
      · rw [upd_same, take_get ht, List.map_append, ivs_append]
        rfl
    · rintro H3 ⟨sm3, hD⟩
      rw [hl, List.take_length] at hD
      refine ⟨D, nI (ts.map fun t => total t.tail), 0, rfl, rfl, SqL.of (by rw [ivs_nI]; exact hD), fun m hm => ?_⟩
      obtain rfl := topDeg_eq hm
      refine ⟨.ref a, rfl, a, rfl, ⟨_, SqL.of (sm3 _ _ ha)⟩, fun D2 nD2 => ?_⟩
      refine lc_list (K := K) (a := a) (xs := rs) (fun j H4 => Same H3 H4 ∧ ∃ rs2, H4 D2 = some (.lst rs2) ∧ Rows H3 rs2 ((ts.take j).filter fun t => total t.tail == topDeg ts)) ⟨same_upd nD2, [], upd_same, .nil⟩ ?_ ?_ ?_
      · rintro j H4 _ ⟨sm4, _⟩
        exact sm4.seq (SqL.of (sm3 _ _ ha))
      · rintro j x H4 hj ⟨sm4, rs2, hD2, hr2⟩
        obtain ⟨r, t, rfl, ht, hrt⟩ := Rows.at hrs hj
        have hlen2 := hr2.len
        have hle : rs2.length ≤ ts.length := by
          rw [hlen2]
          refine Nat.le_trans (List.length_filter_le _ _) ?_
          rw [List.length_take]
          omega
        refine ⟨rfl, ?_⟩
        refine ⟨.ref r, rfl, r, t, rfl, sm4 _ _ (sm3 _ _ hrt), fun H5 sm5 => ⟨iv (topDeg ts), rfl, rfl, _, rfl, ?_⟩⟩
        show if decide (iv (total t.tail) = iv (topDeg ts)) = true then _ else _
        rw [decide_iv]
        have hD5 := sm5 _ _ hD2
        by_cases hc : total t.tail = topDeg ts
        · rw [decide_eq_true hc]
          refine iteT ?_
          refine ⟨.ref r, rfl, rs2, hD5, sz (by omega), same_new (sm4.trans sm5) nD2, rs2 ++ [.ref r], upd_same, ?_⟩
          rw [take_get ht, List.filter_append]
          have e2 : [t].filter (fun t => total t.tail == topDeg ts) = [t] := by simp [hc]
          rw [e2]
          exact Rows.snoc hr2 (sm3 _ _ hrt)
        · rw [decide_eq_false hc]
          refine iteF ?_
          refine ⟨sm4.trans sm5, rs2, hD5, ?_⟩
          rw [take_get ht, List.filter_append]
          have e2 : [t].filter (fun t => total t.tail == topDeg ts) = [] := by simp [hc]
          rw [e2, List.append_nil]
          exact hr2
      · rintro H4 ⟨sm4, rs2, hD2, hr2⟩
        rw [hl, List.take_length] at hr2
        exact q H4 D2 rs2 (sm3.trans sm4) (sm3.free nD2) hD2 (hr2.same sm4)
end
end KM
namespace KM
open PySem PySem.Spec PyProof.Rows L2
open Kzt1 (Term powMod value coords total monos)
def spVal : Sp := fun vs H Q _ => ∃ (p : Nat) (a b : Addr) (c : Nat) (e x : List Nat), vs = [iv p, .ref a, .ref b] ∧ H a = some (.lst (ivs (c :: e))) ∧ H b = some (.lst (ivs x)) ∧ 1 < p ∧ p ≤ 7 ∧ c < p ∧ (∀ k ∈ e, k ≤ 1000) ∧ (∀ y ∈ x, y ≤ 1000) ∧ ∀ H' : Hp, Same H H' → Q (iv (fv p x ⟨c, e⟩)) H'
def spVals : Sp := fun vs H Q _ => ∃ (p : Nat) (a b : Addr) (rs : List V) (f : List Term) (x : List Nat), vs = [iv p, .ref a, .ref b] ∧ H a = some (.lst rs) ∧ Rows H rs (f.map tRow) ∧ H b = some (.lst (ivs x)) ∧ 1 < p ∧ p ≤ 7 ∧ f.length ≤ 1000 ∧ (∀ t ∈ f, t.c < p ∧ ∀ k ∈ t.e, k ≤ 1000) ∧ (∀ y ∈ x, y ≤ 1000) ∧ ∀ H' : Hp, Same H H' → Q (iv (value p f x)) H'
section
variable {P : Program} {w : World} {K : PySem.W.Frag} {mg : Str → Option Value} {base : Heap} {aP : Addr} {tM tW tN : Nat}
theorem scVal : FnScope ["p", "term", "numbers", "value", "times", "number", "turn"] ["p", "term", "numbers"] (defScope sVal) := ⟨rfl, rfl, rfl, by decide +kernel, rfl, by decide +kernel, by decide +kernel⟩
theorem ok_val {f : Addr} {fd : FuncData} {k : Nat} (F : Fun K "value_of_term" "value_of_term" sVal f fd) (mz : mg "zip" = none) (T : Txt K mg aP tM tW tN) : FnOk P w K mg base CX0 (k + 1) f fd ["p", "term", "numbers"] spVal := by
  refine F.ok scVal (fun vs H Q E h => ?_) (fun cdv A outer s H vs Q E hr h => ?_)
  · obtain ⟨p, a, b, c, e, x, rfl, _⟩ := h
    rfl
  · obtain ⟨p, a, b, c, e, x, rfl, ha, hb, h1, hp, hc, he, hx, q⟩ := h
    refine ⟨_, pss_cons (ps_set (i := 3) scVal.nd rfl (.inl rfl) (pe_ix ix_list (pv 1) pe_int (fun _ _ => rfl)))
      (pss_cons (ps_for PassesOwn.never rfl (pi_zip (by rfl) mz (pa_cons (pe_slice sl_list (pv 1) (po_some pe_int) po_none) (pa_cons (pv 2) pa_nil)))
          (pg_tup rfl (pgs_cons (pg_name (i := 4) scVal.nd rfl (.inl rfl)) (pgs_cons (pg_name (i := 5) scVal.nd rfl (.inl rfl)) pgs_nil)))
        (pss_one (ps_for PassesOwn.never rfl (pi_range1 (by rfl) T.range (pa_cons (pv 4) pa_nil)) (pg_name (i := 6) scVal.nd rfl (.inl rfl))
          (pss_one (ps_set (i := 3) scVal.nd rfl (.inl rfl) (pe_op op_mod (pe_op op_mul (pv 3) (pv 5)) (pv 0)))))))
      (pss_one (ps_ret (pv 3)))), ?_⟩
    refine ⟨.ref a, rfl, a, _, 0, iv c, rfl, rfl, SqL.of ha, atI_nat (by rfl), ?_⟩
    refine ⟨.ref a, rfl, 1, rfl, a, _, rfl, SqL.of ha, fun l nl => ?_⟩
    rw [cut_tail]
    have hl1 : upd H l (.lst (ivs (c :: e).tail)) l = some (.lst (ivs e)) := upd_same
    have hb1 := (same_upd (o := .lst (ivs (c :: e).tail)) nl) _ _ hb
    have sm1 : Same H (upd H l (.lst (ivs (c :: e).tail))) := same_upd nl
    generalize upd H l (.lst (ivs (c :: e).tail)) = H1 at hl1 hb1 sm1 ⊢
    refine ⟨.ref b, rfl, l, b, _, _, rfl, SqL.of hl1, SqL.of hb1, ?_⟩
    refine for_it (walk_zip (K := K) (a := l) (b := b) (xs := ivs e) (ys := ivs x) rfl) (fun i σ H' => ∃ y4 y5 y6, σ = [some (iv p), some (.ref a), some (.ref b), some (iv (fvTo p c ((e.zip x).take i))), y4, y5, y6] ∧ Same H1 H') ⟨none, none, none, rfl, Same.refl _⟩ ?_ ?_ ?_
    · rintro i σ H' _ ⟨_, _, _, _, sm⟩
      exact ⟨sm.seq (SqL.of hl1), sm.seq (SqL.of hb1)⟩
    · rintro i v σ H' H2 hi ⟨y4, y5, y6, rfl, sm⟩ ⟨T, v1, v2, rfl, nT, rfl, hv1, hv2⟩
      obtain ⟨d, hd, rfl⟩ := ivs_at hv1
      obtain ⟨y, hy, rfl⟩ := ivs_at hv2
      have hz : (e.zip x)[i]? = some (d, y) := List.getElem?_zip_eq_some.mpr ⟨hd, hy⟩
      have hd2 := he d (List.mem_of_getElem? hd)
      have hy2 := hx y (List.mem_of_getElem? hy)
      refine ⟨T, [iv d, iv y], rfl, SqT.of upd_same, rfl, iv d, [iv y], rfl, iv y, [], rfl, rfl, ?_⟩
      refine ⟨iv d, rfl, (d : Int), rfl, by omega, by omega, for_range (n := (d : Int).toNat) (fun j σ H' => ∃ y6, σ = [some (iv p), some (.ref a), some (.ref b), some (iv (itv p y (fvTo p c ((e.zip x).take i)) j)), some (iv d), some (iv y), y6] ∧ Same H1 H') ⟨_, rfl, sm.trans (same_upd nT)⟩ ?_ ?_⟩
      · rintro j σ H3 hj ⟨y6, rfl, sm3⟩
        refine ⟨iv _, rfl, iv y, rfl, _, _, rfl, rfl, .inr ⟨by omega, by omega⟩, iv p, rfl, _, _, rfl, rfl, by omega, some (.int (0 + (j : Int))), ?_, sm3⟩
        show [some (iv p), some (.ref a), some (.ref b), some (V.int (((itv p y (fvTo p c ((e.zip x).take i)) j : Nat) : Int) * (y : Int) % (p : Int))), some (iv d), some (iv y), _] = _
        rw [show ((itv p y (fvTo p c ((e.zip x).take i)) j : Nat) : Int) * (y : Int) % (p : Int) = ((itv p y (fvTo p c ((e.zip x).take i)) (j + 1) : Nat) : Int) from by
          show _ = ((itv p y (fvTo p c ((e.zip x).take i)) j * y % p : Nat) : Int)
          rw [Int.natCast_emod, Int.natCast_mul]]
      · rintro σ H3 ⟨y6, rfl, sm3⟩
        rw [Int.toNat_natCast, itv_pow h1 (fvTo_lt hc _)]
        refine ⟨some (iv d), some (iv y), y6, ?_, sm3⟩
        rw [fvTo_snoc hz]
    · rintro σ H' ⟨y4, y5, y6, rfl, sm⟩
      rw [ivs_length, ivs_length, List.take_of_length_le (by rw [List.length_zip]; exact Nat.le_refl _)]
      exact ⟨_, rfl, q H' (sm1.trans sm)⟩
theorem scVals : FnScope ["p", "terms", "numbers", "term"] ["p", "terms", "numbers"] (defScope sVals) := ⟨rfl, rfl, rfl, by decide +kernel, rfl, by decide +kernel, by decide +kernel⟩
theorem ok_vals {f fV : Addr} {fd fdV : FuncData} {k : Nat} (F : Fun K "value_of_terms" "value_of_terms" sVals f fd)
    (FV : Fun K "value_of_term" "value_of_term" sVal fV fdV) (bV : Binds K fdV ["p", "term", "numbers"] []) (gV : mg "value_of_term" = some (.ref fV)) (mz : mg "zip" = none) (ms : mg "sum" = none) (T : Txt K mg aP tM tW tN) : FnOk P w K mg base CX0 (k + 2) f fd ["p", "terms", "numbers"] spVals := by
  have GV : FnOk P w K mg base CX0 (k + 1) fV fdV ["p", "term", "numbers"] spVal := ok_val FV mz T
  refine F.ok scVals (fun vs H Q E h => ?_) (fun cdv A outer s H vs Q E hr h => ?_)
  · obtain ⟨p, a, b, rs, f, x, rfl, _⟩ := h
    rfl
  · obtain ⟨p, a, b, rs, f, x, rfl, ha, hrs, hb, h1, hp, hlen, hf, hx, q⟩ := h
    have hl := hrs.len
    rw [List.length_map] at hl
    refine ⟨_, pss_one (ps_ret (pe_op op_mod (pe_callB (cr_sum rfl) (by rfl) ms (by decide +kernel) (pa_cons
        (pe_lc (own := [("term", 3)]) (g := gName 3) (tt := tYes) (te := tCall spVal [] E0 (tCons (tVar 0) (tCons (tVar 3) (tCons (tVar 2) tNil)))) (by rfl) scVals.nd (pi_list (pv 1))
          (blkOk_by (own := [("term", 3)]) (N := ["p", "terms", "numbers", "term"]) (sc := defScope sVals) (by decide +kernel))
          (fun _ _ _ _ _ => pg_name (i := 3) scVals.nd rfl (.inl rfl)) (fun _ _ _ _ _ => pts_nil)
          (fun _ _ _ _ _ => pe_call GV hr (by rfl) gV FV.kp bV .nil pass0 (pa_cons (pv 0) (pa_cons (pv 3) (pa_cons (pv 2) pa_nil))))) pa_nil)) (pv 0))), ?_⟩
    refine ⟨.ref a, rfl, a, rfl, ⟨_, SqL.of ha⟩, fun D nD => ?_⟩
    refine lc_list (K := K) (a := a) (xs := rs) (fun j H3 => Same H H3 ∧ H3 D = some (.lst (ivs ((f.take j).map (fv p x))))) ⟨same_upd nD, upd_same⟩ ?_ ?_ ?_
    · rintro j H3 _ ⟨sm3, _⟩
      exact sm3.seq (SqL.of ha)
    · rintro j v H3 hj ⟨sm3, hD⟩
      obtain ⟨r, t, rfl, ht, hrt⟩ := Rows.at hrs hj
      rw [List.getElem?_map] at ht
      cases hfj : f[j]? with
      | none =>
        rw [hfj] at ht
        cases ht
      | some u =>
        rw [hfj] at ht
        obtain rfl := Option.some.inj ht
        obtain ⟨hu1, hu2⟩ := hf u (List.mem_of_getElem? hfj)
        refine ⟨rfl, ?_⟩
        unfold tYes
        refine iteT ?_
        refine ⟨iv p, rfl, .ref r, rfl, .ref b, rfl, p, r, b, u.c, u.e, x, rfl, sm3 _ _ hrt, sm3 _ _ hb, h1, hp, hu1, hu2, hx, fun H4 sm4 => ?_⟩
        refine ⟨_, sm4 _ _ hD, ?_, same_new (sm3.trans sm4) nD, ?_⟩
        · rw [ivs_length, List.length_map, List.length_take]
          exact sz (by omega)
        · rw [upd_same, take_get hfj, List.map_append, ivs_append]
          rfl
    · rintro H3 ⟨sm3, hD⟩
      rw [hl, List.take_length] at hD
      refine ⟨D, nI (f.map (fv p x)), rfl, SqL.of (by rw [ivs_nI]; exact hD), iv p, rfl, _, _, rfl, rfl, by omega, ?_⟩
      rw [sum_nI]
      show Q (V.int (((total (f.map (fv p x)) : Nat) : Int) % (p : Int))) H3
      have e : ((total (f.map (fv p x)) : Nat) : Int) % (p : Int) = ((value p f x : Nat) : Int) := by
        rw [value_sum, Int.natCast_emod]
        congr 2
        have key : ∀ l : List Nat, total l = l.sum := by
          intro l
          induction l with
          | nil => rfl
          | cons b l ih => rw [total_cons, ih, List.sum_cons]
        exact key _
      rw [e]
      exact q H3 sm3
end
end KM
namespace KM
open PySem PySem.Spec PyProof.Rows L2
open Kzt1 (Term powMod value coords total monos freed)
def spRow : Sp := fun vs H Q _ => ∃ (p n : Nat) (a b : Addr) (j : Nat) (rs ps : List V) (M : List (List Nat)) (s : List Nat), vs = [iv p, .ref a, iv j, .ref b] ∧ H a = some (.lst rs) ∧ Rows H rs (M.map fun e => 1 :: e) ∧ H b = some (.lst ps) ∧ Rows H ps (s.map (coords p n)) ∧ 1 < p ∧ p ≤ 7 ∧ j < M.length ∧ M.length ≤ 400 ∧ s.length ≤ 400 ∧ (∀ e ∈ M, ∀ k ∈ e, k ≤ 1000) ∧
  ∀ (H' : Hp) (q : Addr), Same H H' → H q = none → H' q = some (.lst (ivs (rowJ p n M s j))) → Q (.ref q) H'
def spFirst : Sp := fun vs H Q _ => ∃ (a : Addr) (r : List Nat) (i : Nat), vs = [.ref a] ∧ H a = some (.lst (ivs r)) ∧ r.length ≤ 1000 ∧ i < r.length ∧ r.getD i 0 ≠ 0 ∧ (∀ m < i, r.getD m 0 = 0) ∧ ∀ H' : Hp, Same H H' → Q (iv i) H'
def spScal : Sp := fun vs H Q _ => ∃ (p : Nat) (a : Addr) (r : List Nat) (i : Nat), vs = [iv p, .ref a, iv i] ∧ H a = some (.lst (ivs r)) ∧ Pr p ∧ r.length ≤ 1000 ∧ i < r.length ∧ r.getD i 0 ≠ 0 ∧ r.getD i 0 < p ∧ ∀ (H' : Hp) (q : Addr) (t : Nat), Same H H' → H q = none → r.getD i 0 * t % p = 1 → t < p → H' q = some (.lst (ivs (r.map fun x => t * x % p))) → Q (.ref q) H'
theorem getD_get {r : List Nat} {i : Nat} (h : i < r.length) : r[i]? = some (r.getD i 0) := by
  rw [List.getD_eq_getElem?_getD, List.getElem?_eq_getElem h]
  rfl
theorem map_get {α β : Type} {f : α → β} {l : List α} {i : Nat} {y : β} (h : (l.map f)[i]? = some y) : ∃ x, l[i]? = some x ∧ y = f x := by
  rw [List.getElem?_map] at h
  cases e : l[i]? with
  | none =>
    rw [e] at h
    cases h
  | some x =>
    rw [e] at h
    exact ⟨x, rfl, (Option.some.inj h).symm⟩
theorem mod_iv (x y p : Nat) : ((x : Int) * (y : Int)) % (p : Int) = ((x * y % p : Nat) : Int) := by
  rw [Int.natCast_emod, Int.natCast_mul]
section
variable {P : Program} {w : World} {K : PySem.W.Frag} {mg : Str → Option Value} {base : Heap} {aP : Addr} {tM tW tN : Nat}
theorem scRow : FnScope ["p", "terms", "place", "points", "values", "numbers", "other"] ["p", "terms", "place", "points"] (defScope sRow) := ⟨rfl, rfl, rfl, by decide +kernel, rfl, by decide +kernel, by decide +kernel⟩
theorem ok_row {f fV : Addr} {fd fdV : FuncData} {k : Nat} (F : Fun K "row_of_term" "row_of_term" sRow f fd)
    (FV : Fun K "value_of_term" "value_of_term" sVal fV fdV) (bV : Binds K fdV ["p", "term", "numbers"] []) (gV : mg "value_of_term" = some (.ref fV)) (mz : mg "zip" = none) (ml : mg "len" = none) (T : Txt K mg aP tM tW tN) : FnOk P w K mg base CX0 (k + 2) f fd ["p", "terms", "place", "points"] spRow := by
  have GV : FnOk P w K mg base CX0 (k + 1) fV fdV ["p", "term", "numbers"] spVal := ok_val FV mz T
  refine F.ok scRow (fun vs H Q E h => ?_) (fun cdv A outer s H vs Q E hr h => ?_)
  · obtain ⟨p, n, a, b, j, rs, ps, M, s, rfl, _⟩ := h
    rfl
  · obtain ⟨p, n, a, b, j, rs, ps, M, s, rfl, ha, hrs, hb, hps, h1, hp, hj, hM, hs, hk, q⟩ := h
    have hl1 := hrs.len
    have hl2 := hps.len
    rw [List.length_map] at hl1 hl2
    have hrj : rs[j]? = some rs[j] := List.getElem?_eq_getElem (by omega)
    obtain ⟨r, t, er, ht, hrt⟩ := Rows.at hrs hrj
    rw [er] at hrj
    obtain ⟨e, hMj, rfl⟩ := map_get ht
    have hke := hk e (List.mem_of_getElem? hMj)
    have hgd : M.getD j [] = e := by
      rw [List.getD_eq_getElem?_getD, hMj]
      rfl
    refine ⟨_, pss_cons (ps_setLc (i := 4) (own := [("numbers", 5)]) (g := gName 5) (tt := tYes) (te := tCall spVal [] E0 (tCons (tVar 0) (tCons (tOp (rIxL K) (tVar 1) (tVar 2)) (tCons (tVar 5) tNil)))) (by rfl) scRow.nd rfl rfl (sw_true rfl rfl rfl (by decide +kernel)) (pi_list (pv 3))
          (blkOk_by (own := [("numbers", 5)]) (N := ["p", "terms", "place", "points", "values", "numbers", "other"]) (sc := defScope sRow) (by decide +kernel))
          (fun _ _ _ _ _ => pg_name (i := 5) scRow.nd rfl (.inl rfl)) (fun _ _ _ _ _ => pts_nil)
          (fun _ _ _ _ _ => pe_call GV hr (by rfl) gV FV.kp bV .nil pass0 (pa_cons (pv 0) (pa_cons (pe_ix (r := rIxL K) ix_list (pv 1) (pv 2) (fun _ _ => rfl)) (pa_cons (pv 5) pa_nil)))))
      (pss_one (ps_ret (pe_op op_cat (pv 4) (pe_lc (own := [("other", 6)]) (g := gName 6) (tt := tYes) (te := tIf (tTest (tOp rEq (tVar 6) (tVar 2))) (tC (.int 1)) (tC (.int 0))) (by rfl) scRow.nd
          (pi_range1 (by rfl) T.range (pa_cons (pe_callB call_len_seq (by rfl) ml PySem.boot_len (pa_cons (pv 1) pa_nil)) pa_nil))
          (blkOk_by (own := [("other", 6)]) (N := ["p", "terms", "place", "points", "values", "numbers", "other"]) (sc := defScope sRow) (by decide +kernel))
          (fun _ _ _ _ _ => pg_name (i := 6) scRow.nd rfl (.inl rfl)) (fun _ _ _ _ _ => pts_nil)
          (fun _ _ _ _ _ => pe_ifExp (pt_cmpR op_eq (pv 6) (pv 2) (nomark _)) pe_int pe_int))))), ?_⟩
    refine ⟨.ref b, rfl, b, rfl, ⟨_, SqL.of hb⟩, fun D nD => ?_⟩
    refine lc_list (K := K) (a := b) (xs := ps) (fun i H3 => Same H H3 ∧ H3 D = some (.lst (ivs ((s.take i).map fun x => ev p n e x)))) ⟨same_upd nD, upd_same⟩ ?_ ?_ ?_
    · rintro i H3 _ ⟨sm3, _⟩
      exact sm3.seq (SqL.of hb)
    · rintro i v H3 hi ⟨sm3, hD⟩
      obtain ⟨r2, t2, rfl, ht2, hrt2⟩ := Rows.at hps hi
      obtain ⟨x, hx, rfl⟩ := map_get ht2
      refine ⟨rfl, ?_⟩
      unfold tYes
      refine iteT ?_
      refine ⟨iv p, rfl, .ref a, rfl, iv j, rfl, a, rs, (j : Int), .ref r, rfl, rfl, SqL.of (sm3 _ _ ha), atI_nat hrj, .ref r2, rfl, p, r, r2, 1, e, coords p n x, rfl, sm3 _ _ hrt, sm3 _ _ hrt2, h1, hp, h1, hke, fun y hy => ?_, fun H4 sm4 => ?_⟩
      · have := coords_lt (p := p) (by omega) y hy
        omega
      · refine ⟨_, sm4 _ _ hD, ?_, same_new (sm3.trans sm4) nD, ?_⟩
        · rw [ivs_length, List.length_map, List.length_take]
          exact sz (by omega)
        · rw [upd_same, take_get hx, List.map_append, ivs_append, ← ev_fv h1]
          rfl
    · rintro H3 ⟨sm3, hD⟩
      rw [hl2, List.take_length] at hD
      refine ⟨.ref D, rfl, .ref a, rfl, a, rs, rfl, .inl (SqL.of (sm3 _ _ ha)), ((rs.length : Nat) : Int), rfl, by omega, by omega, fun D2 nD2 => ?_⟩
      refine lc_range (lo := 0) (n := (((rs.length : Nat) : Int)).toNat) (fun i H4 => Same H3 H4 ∧ H4 D2 = some (.lst (ivs ((List.range i).map fun m => if m = j then 1 else 0)))) ⟨same_upd nD2, upd_same⟩ ?_ ?_
      · rintro i H4 hi ⟨sm4, hD2⟩
        rw [Int.toNat_natCast] at hi
        have ej : V.int (0 + (i : Int)) = iv i := congrArg V.int (Int.zero_add _)
        rw [ej]
        refine ⟨rfl, ?_⟩
        unfold tYes
        refine iteT ?_
        refine ⟨iv i, rfl, iv j, rfl, rfl, _, rfl, ?_⟩
        show if decide (iv i = iv j) = true then _ else _
        rw [decide_iv]
        have hlen : (ivs ((List.range i).map fun m => if m = j then 1 else 0)).length < sizeLine := by
          rw [ivs_length, List.length_map, List.length_range]
          exact sz (by omega)
        by_cases c : i = j
        · rw [decide_eq_true c]
          refine iteT ?_
          refine ⟨_, hD2, hlen, same_new sm4 nD2, ?_⟩
          rw [upd_same, List.range_succ, List.map_append, ivs_append, List.map_cons, List.map_nil, if_pos c]
          rfl
        · rw [decide_eq_false c]
          refine iteF ?_
          refine ⟨_, hD2, hlen, same_new sm4 nD2, ?_⟩
          rw [upd_same, List.range_succ, List.map_append, ivs_append, List.map_cons, List.map_nil, if_neg c]
          rfl
      · rintro H4 ⟨sm4, hD2⟩
        rw [Int.toNat_natCast, hl1] at hD2
        refine ⟨D, D2, _, _, rfl, rfl, sm4 _ _ hD, hD2, ?_, fun z nz => ?_⟩
        · rw [ivs_length, ivs_length, List.length_map, List.length_map, List.length_range]
          exact Nat.le_of_lt (sz (by omega))
        · refine q _ z (sm3.trans (sm4.trans (same_upd nz))) (sm3.free (sm4.free nz)) ?_
          rw [upd_same]
          unfold rowJ
          rw [hgd, ivs_append]
theorem scFirst : FnScope ["row", "place", "number"] ["row"] (defScope sFirst) := ⟨rfl, rfl, rfl, by decide +kernel, rfl, by decide +kernel, by decide +kernel⟩
theorem places_succ (f : Nat → Bool) (i : Nat) : places f (i + 1) = places f i ++ (if f i then [i] else []) := by
  unfold places
  rw [List.range_succ, List.filter_append]
  cases h : f i <;> simp [h]
theorem places_len (f : Nat → Bool) (i : Nat) : (places f i).length ≤ i := by
  unfold places
  refine Nat.le_trans (List.length_filter_le _ _) ?_
  rw [List.length_range]
  exact Nat.le_refl _
theorem ok_first {f : Addr} {fd : FuncData} {k : Nat} (F : Fun K "first_place_not_0" "first_place_not_0" sFirst f fd) (me : mg "enumerate" = none) : FnOk P w K mg base CX0 (k + 1) f fd ["row"] spFirst := by
  refine F.ok scFirst (fun vs H Q E h => ?_) (fun cdv A outer s H vs Q E hr h => ?_)
  · obtain ⟨a, r, i, rfl, _⟩ := h
    rfl
  · obtain ⟨a, r, i, rfl, ha, hlen, hi, hne, hlo, q⟩ := h
    refine ⟨_, pss_one (ps_ret (pe_ix ix_list (pe_lc (own := [("place", 1), ("number", 2)]) (g := gTup K 2 (gCons (gName 1) (gCons (gName 2) gNil))) (tt := tTest (tOp rNe (tVar 2) (tC (.int 0)))) (te := tVar 1) (by rfl) scFirst.nd
        (pi_enum (by rfl) me (pa_cons (pv 0) pa_nil))
        (blkOk_by (own := [("place", 1), ("number", 2)]) (N := ["row", "place", "number"]) (sc := defScope sFirst) (by decide +kernel))
        (fun _ _ _ _ _ => pg_tup rfl (pgs_cons (pg_name (i := 1) scFirst.nd rfl (.inl rfl)) (pgs_cons (pg_name (i := 2) scFirst.nd rfl (.inl rfl)) pgs_nil)))
        (fun _ _ _ _ _ => pts_one (pt_cmpR op_ne (pv 2) pe_int (nomark _)))
        (fun _ _ _ _ _ => pv 1)) pe_int (fun _ _ => rfl))), ?_⟩
    refine ⟨.ref a, rfl, a, _, rfl, SqL.of ha, fun D nD => ?_⟩
    refine lc_it (walk_enum (K := K) (a := a) (xs := ivs r)) (fun j H3 => Same H H3 ∧ H3 D = some (.lst (ivs (places (fun i => r.getD i 0 != 0) j)))) ⟨same_upd nD, upd_same⟩ ?_ ?_ ?_
    · rintro j H3 _ ⟨sm3, _⟩
      exact sm3.seq (SqL.of ha)
    · rintro j v H3 H4 hj ⟨sm3, hD⟩ ⟨T, v1, v2, rfl, nT, rfl, hv1, hv2⟩
      rw [ivs_length] at hj
      obtain rfl := Option.some.inj hv1
      obtain ⟨c, hc, rfl⟩ := ivs_at hv2
      have hcg : c = r.getD j 0 := by
        rw [getD_get hj] at hc
        exact (Option.some.inj hc).symm
      have hTD : T ≠ D := ne_free hD nT
      refine ⟨T, [iv j, iv c], rfl, SqT.of upd_same, rfl, iv j, [iv c], rfl, iv c, [], rfl, rfl, rfl, ?_⟩
      have hD4 := (same_upd (o := .tup [V.int (j : Int), iv c]) nT) _ _ hD
      refine ⟨iv c, rfl, rfl, _, rfl, ?_⟩
      show if (!decide (iv c = iv 0)) = true then _ else _
      rw [decide_iv]
      by_cases c0 : c = 0
      · rw [decide_eq_true c0]
        refine iteF ?_
        refine ⟨sm3.trans (same_upd nT), ?_⟩
        rw [places_succ, if_neg (by rw [← hcg, c0]; exact Bool.noConfusion), List.append_nil]
        exact hD4
      · rw [decide_eq_false c0]
        refine iteT ?_
        refine ⟨iv j, rfl, _, hD4, ?_, same_new (sm3.trans (same_upd nT)) nD, ?_⟩
        · rw [ivs_length]
          have := places_len (fun i => r.getD i 0 != 0) j
          exact sz (by omega)
        · rw [upd_same, places_succ, if_pos (by rw [← hcg]; simpa using c0), ivs_append]
          rfl
    · rintro H3 ⟨sm3, hD⟩
      rw [ivs_length] at hD
      have hf := first_place (f := fun i => r.getD i 0 != 0) (k := r.length) (i := i) hi (by simpa using hne) (fun m hm => by
        show (r.getD m 0 != 0) = false
        rw [hlo m hm]
        rfl)
      refine ⟨D, _, 0, iv i, rfl, rfl, SqL.of hD, atI_nat (ivs_get hf), q H3 sm3⟩
theorem scScal : FnScope ["p", "row", "pivot", "times", "number"] ["p", "row", "pivot"] (defScope sScal) := ⟨rfl, rfl, rfl, by decide +kernel, rfl, by decide +kernel, by decide +kernel⟩
def invs (p g j : Nat) : List Nat := ((List.range j).map (· + 1)).filter fun t => t * g % p == 1
theorem invs_succ (p g j : Nat) : invs p g (j + 1) = invs p g j ++ (if (j + 1) * g % p == 1 then [j + 1] else []) := by
  unfold invs
  rw [List.range_succ, List.map_append, List.filter_append]
  congr 1
  show [j + 1].filter _ = _
  cases h : ((j + 1) * g % p == 1) <;> simp [h]
theorem invs_len (p g j : Nat) : (invs p g j).length ≤ j := by
  unfold invs
  refine Nat.le_trans (List.length_filter_le _ _) ?_
  rw [List.length_map, List.length_range]
  exact Nat.le_refl _
theorem invs_head {p g : Nat} (hp : Pr p) (hg : g < p) (h0 : g ≠ 0) : ∃ t, (invs p g (p - 1))[0]? = some t ∧ g * t % p = 1 ∧ t < p := by
  have hne : (invs p g (p - 1)) ≠ [] := by
    revert g
    rcases hp with rfl | rfl | rfl | rfl <;> decide
  cases e : invs p g (p - 1) with
  | nil => exact absurd e hne
  | cons t l =>
    have hm : t ∈ invs p g (p - 1) := by
      rw [e]
      exact List.mem_cons_self
    unfold invs at hm
    obtain ⟨h1, h2⟩ := List.mem_filter.mp hm
    obtain ⟨y, hy, rfl⟩ := List.mem_map.mp h1
    have hy2 := List.mem_range.mp hy
    refine ⟨y + 1, rfl, ?_, by omega⟩
    rw [Nat.mul_comm]
    simpa using h2
theorem ok_scal {f : Addr} {fd : FuncData} {k : Nat} (F : Fun K "scaled_row" "scaled_row" sScal f fd) (T : Txt K mg aP tM tW tN) : FnOk P w K mg base CX0 (k + 1) f fd ["p", "row", "pivot"] spScal := by
  refine F.ok scScal (fun vs H Q E h => ?_) (fun cdv A outer s H vs Q E hr h => ?_)
  · obtain ⟨p, a, r, i, rfl, _⟩ := h
    rfl
  · obtain ⟨p, a, r, i, rfl, ha, hp, hlen, hi, hne, hlt, q⟩ := h
    have hp7 : 2 ≤ p ∧ p ≤ 7 := by rcases hp with rfl | rfl | rfl | rfl <;> omega
    refine ⟨_, pss_cons (ps_set (i := 3) scScal.nd rfl (.inr rfl) (pe_ix ix_list (pe_lc (own := [("number", 4)]) (g := gName 4)
          (tt := tTest (tOp rEq (tOp (rI (fun _ j => 0 < j) fun i j => .int (i % j)) (tOp (rI CMul fun i j => .int (i * j)) (tVar 4) (tOp (rIxL K) (tVar 1) (tVar 2))) (tVar 0)) (tC (.int 1)))) (te := tVar 4) (by rfl) scScal.nd
          (pi_range2 (by rfl) T.range (pa_cons pe_int (pa_cons (pv 0) pa_nil)))
          (blkOk_by (own := [("number", 4)]) (N := ["p", "row", "pivot", "times", "number"]) (sc := defScope sScal) (by decide +kernel))
          (fun _ _ _ _ _ => pg_name (i := 4) scScal.nd rfl (.inl rfl))
          (fun _ _ _ _ _ => pts_one (pt_cmpR op_eq (pe_op op_mod (pe_op op_mul (pv 4) (pe_ix (r := rIxL K) ix_list (pv 1) (pv 2) (fun _ _ => rfl))) (pv 0)) pe_int (nomark _)))
          (fun _ _ _ _ _ => pv 4)) pe_int (fun _ _ => rfl)))
      (pss_one (ps_ret (pe_lc (own := [("number", 4)]) (g := gName 4) (tt := tYes) (te := tOp (rI (fun _ j => 0 < j) fun i j => .int (i % j)) (tOp (rI CMul fun i j => .int (i * j)) (tVar 3) (tVar 4)) (tVar 0)) (by rfl) scScal.nd (pi_list (pv 1))
          (blkOk_by (own := [("number", 4)]) (N := ["p", "row", "pivot", "times", "number"]) (sc := defScope sScal) (by decide +kernel))
          (fun _ _ _ _ _ => pg_name (i := 4) scScal.nd rfl (.inl rfl)) (fun _ _ _ _ _ => pts_nil)
          (fun _ _ _ _ _ => pe_op op_mod (pe_op op_mul (pv 3) (pv 4)) (pv 0))))), ?_⟩
    have hri := getD_get hi
    refine ⟨iv p, rfl, 1, (p : Int), rfl, ⟨by omega, by omega, by omega, by omega⟩, fun D nD => ?_⟩
    refine lc_range (lo := 1) (n := ((p : Int) - 1).toNat) (fun j H3 => Same H H3 ∧ H3 D = some (.lst (ivs (invs p (r.getD i 0) j)))) ⟨same_upd nD, upd_same⟩ ?_ ?_
    · rintro j H3 hj ⟨sm3, hD⟩
      have ej : V.int (1 + (j : Int)) = iv (j + 1) := congrArg V.int (by omega)
      rw [ej]
      have hil := invs_len p (r.getD i 0) j
      refine ⟨rfl, ?_⟩
      refine ⟨iv (j + 1), rfl, .ref a, rfl, iv i, rfl, a, _, (i : Int), iv (r.getD i 0), rfl, rfl, SqL.of (sm3 _ _ ha), atI_nat (ivs_get hri), _, _, rfl, rfl, .inr ⟨by omega, by omega⟩, iv p, rfl, _, _, rfl, rfl, by omega, rfl, _, rfl, ?_⟩
      show if decide (V.int (((j + 1 : Nat) : Int) * ((r.getD i 0 : Nat) : Int) % (p : Int)) = iv 1) = true then _ else _
      rw [mod_iv, decide_iv]
      by_cases c : (j + 1) * r.getD i 0 % p = 1
      · rw [decide_eq_true c]
        refine iteT ?_
        refine ⟨iv (j + 1), rfl, _, hD, ?_, same_new sm3 nD, ?_⟩
        · rw [ivs_length]
          exact sz (by omega)
        · rw [upd_same, invs_succ, if_pos (by simpa using c), ivs_append]
          rfl
      · rw [decide_eq_false c]
        refine iteF ?_
        refine ⟨sm3, ?_⟩
        rw [invs_succ, if_neg (by simpa using c), List.append_nil]
        exact hD
    · rintro H3 ⟨sm3, hD⟩
      rw [show ((p : Int) - 1).toNat = p - 1 by omega] at hD
      obtain ⟨t, ht, htg, htp⟩ := invs_head hp hlt hne
      refine ⟨D, _, 0, iv t, rfl, rfl, SqL.of hD, atI_nat (ivs_get ht), ?_⟩
      refine ⟨.ref a, rfl, a, rfl, ⟨_, SqL.of (sm3 _ _ ha)⟩, fun D2 nD2 => ?_⟩
      refine lc_list (K := K) (a := a) (xs := ivs r) (fun j H4 => Same H3 H4 ∧ H4 D2 = some (.lst (ivs ((r.take j).map fun x => t * x % p)))) ⟨same_upd nD2, upd_same⟩ ?_ ?_ ?_
      · rintro j H4 _ ⟨sm4, _⟩
        exact sm4.seq (SqL.of (sm3 _ _ ha))
      · rintro j v H4 hj ⟨sm4, hD2⟩
        obtain ⟨c, hc, rfl⟩ := ivs_at hj
        refine ⟨rfl, ?_⟩
        unfold tYes
        refine iteT ?_
        refine ⟨iv t, rfl, iv c, rfl, _, _, rfl, rfl, .inl ⟨by omega, by omega⟩, iv p, rfl, _, _, rfl, rfl, by omega, _, hD2, ?_, same_new sm4 nD2, ?_⟩
        · rw [ivs_length, List.length_map, List.length_take]
          exact sz (by omega)
        · rw [upd_same, take_get hc, List.map_append, ivs_append]
          show some (HO.lst (_ ++ [V.int ((t : Int) * (c : Int) % (p : Int))])) = _
          rw [mod_iv]
          rfl
      · rintro H4 ⟨sm4, hD2⟩
        rw [ivs_length, List.take_length] at hD2
        exact q H4 D2 t (sm3.trans sm4) (sm3.free nD2) htg htp hD2
end
end KM
namespace KM
open PySem PySem.Spec PyProof.Rows L2
open Kzt1 (Term powMod value coords total monos freed)
/-- the list of the rows that are kept: pairs of a pivot and a row -/
def KRows (H : Hp) (ks : List V) (kept : List (Nat × List Nat)) : Prop := Paired (fun v (z : Nat × List Nat) => ∃ t o, v = V.ref t ∧ H t = some (.tup [iv z.1, .ref o]) ∧ H o = some (.lst (ivs z.2))) ks kept
theorem KRows.same {H H' : Hp} {ks : List V} {kept : List (Nat × List Nat)} (h : KRows H ks kept) (s : Same H H') : KRows H' ks kept :=
  Paired.mono (fun v z ⟨t, o, e, h1, h2⟩ => ⟨t, o, e, s _ _ h1, s _ _ h2⟩) h
theorem KRows.len {H : Hp} {ks : List V} {kept : List (Nat × List Nat)} (h : KRows H ks kept) : ks.length = kept.length := Paired.length h
theorem KRows.at {H : Hp} : ∀ {ks : List V} {kept : List (Nat × List Nat)} {i : Nat} {x : V}, KRows H ks kept → ks[i]? = some x → ∃ t o z, x = V.ref t ∧ kept[i]? = some z ∧ H t = some (.tup [iv z.1, .ref o]) ∧ H o = some (.lst (ivs z.2))
  | _, _, _, _, .nil, e => by simp at e
  | _, _, 0, _, .cons ⟨t, o, e1, e2, e3⟩ _, e => by
    simp only [List.getElem?_cons_zero, Option.some.injEq] at e
    subst e
    exact ⟨t, o, _, e1, rfl, e2, e3⟩
  | _, _, i + 1, _, .cons _ t, e => by
    rw [List.getElem?_cons_succ] at e ⊢
    exact KRows.at t e
def spWo : Sp := fun vs H Q _ => ∃ (p : Nat) (a b : Addr) (r : List Nat) (ks : List V) (kept : List (Nat × List Nat)) (L : Nat), vs = [iv p, .ref a, .ref b] ∧ H a = some (.lst (ivs r)) ∧ H b = some (.lst ks) ∧ KRows H ks kept ∧ 0 < p ∧ p ≤ 7 ∧ L ≤ 1000 ∧ RowOk p L r ∧ (∀ z ∈ kept, z.1 < L ∧ RowOk p L z.2) ∧
  ∀ (H' : Hp) (q : Addr), Same H H' → H' q = some (.lst (ivs (redu p kept r))) → Q (.ref q) H'
def spTwf : Sp := fun vs H Q _ => ∃ (a b : Addr) (rs : List V) (M : List (List Nat)) (fs : List Nat), vs = [.ref a, .ref b] ∧ H a = some (.lst rs) ∧ Rows H rs (M.map fun e => 1 :: e) ∧ H b = some (.lst (ivs fs)) ∧ fs.length = M.length ∧ M.length ≤ 400 ∧ (∀ e ∈ M, e.length ≤ 100) ∧
  ∀ (H' : Hp) (q : Addr) (rs' : List V), Same H H' → H q = none → H' q = some (.lst rs') → Rows H' rs' ((polyOf M fun m => fs.getD m 0).map tRow) → Q (.ref q) H'
theorem redu_ok {p L : Nat} (hp : 0 < p) {kept : List (Nat × List Nat)} (hk : ∀ z ∈ kept, z.1 < L ∧ RowOk p L z.2) {r : List Nat} (hr : RowOk p L r) : ∀ i ≤ kept.length, RowOk p L (redu p (kept.take i) r) := by
  intro i
  induction i with
  | zero =>
    intro _
    exact hr
  | succ i ih =>
    intro hi
    have hz : kept[i]? = some kept[i] := List.getElem?_eq_getElem (by omega)
    rw [redu_succ hz]
    exact freed_ok hp (hk _ (List.getElem_mem _)).2 (ih (by omega))
theorem freed_zero {p j L : Nat} {r z : List Nat} (hp : 0 < p) (hr : RowOk p L r) (hz : RowOk p L z) (h : r.getD j 0 = 0) : freed p j z r = r := by
  apply List.ext_getElem?
  intro m
  by_cases hm : m < L
  · have e := freed_get (p := p) (j := j) hz.len hr.len hm
    rw [h, Nat.sub_zero, Nat.add_mul_mod_self_left, Nat.mod_eq_of_lt (hr.lt m)] at e
    rw [getD_get (by rw [freed_len hz.len hr.len]; exact hm), getD_get (by rw [hr.len]; exact hm), e]
  · rw [List.getElem?_eq_none (by rw [freed_len hz.len hr.len]; omega), List.getElem?_eq_none (by rw [hr.len]; omega)]
section
variable {P : Program} {w : World} {K : PySem.W.Frag} {mg : Str → Option Value} {base : Heap} {aP : Addr} {tM tW tN : Nat}
theorem scWo : FnScope ["p", "row", "kept", "rest", "pivot", "other", "times", "mine", "its"] ["p", "row", "kept"] (defScope sWo) := ⟨rfl, rfl, rfl, by decide +kernel, rfl, by decide +kernel, by decide +kernel⟩
theorem ok_wo {f : Addr} {fd : FuncData} {k : Nat} (F : Fun K "without_kept" "without_kept" sWo f fd) (mz : mg "zip" = none) : FnOk P w K mg base CX0 (k + 1) f fd ["p", "row", "kept"] spWo := by
  refine F.ok scWo (fun vs H Q E h => ?_) (fun cdv A outer s H vs Q E hr h => ?_)
  · obtain ⟨p, a, b, r, ks, kept, L, rfl, _⟩ := h
    rfl
  · obtain ⟨p, a, b, r, ks, kept, L, rfl, ha, hb, hks, h0, hp, hL, hrow, hk, q⟩ := h
    refine ⟨_, pss_cons (ps_set (i := 3) scWo.nd rfl (.inl rfl) (pv 1))
      (pss_cons (ps_for PassesOwn.never rfl (pi_list (pv 2)) (pg_tup rfl (pgs_cons (pg_name (i := 4) scWo.nd rfl (.inl rfl)) (pgs_cons (pg_name (i := 5) scWo.nd rfl (.inl rfl)) pgs_nil)))
        (pss_cons (ps_set (i := 6) scWo.nd rfl (.inr rfl) (pe_ix ix_list (pv 3) (pv 4) (fun _ _ => rfl)))
        (pss_one (ps_if (pt_cmpR op_ne (pv 6) pe_int (nomark _))
          (pss_one (ps_setLc (i := 3) (own := [("mine", 7), ("its", 8)]) (g := gTup K 2 (gCons (gName 7) (gCons (gName 8) gNil))) (tt := tYes)
            (te := tOp (rI (fun _ j => 0 < j) fun i j => .int (i % j)) (tOp (rI0 fun i j => .int (i - j)) (tVar 7) (tOp (rI CMul fun i j => .int (i * j)) (tVar 6) (tVar 8))) (tVar 0)) (by rfl) scWo.nd rfl rfl (sw_true rfl rfl rfl (by decide +kernel))
            (pi_zip (by rfl) mz (pa_cons (pv 3) (pa_cons (pv 5) pa_nil)))
            (blkOk_by (own := [("mine", 7), ("its", 8)]) (N := ["p", "row", "kept", "rest", "pivot", "other", "times", "mine", "its"]) (sc := defScope sWo) (by decide +kernel))
            (fun _ _ _ _ _ => pg_tup rfl (pgs_cons (pg_name (i := 7) scWo.nd rfl (.inl rfl)) (pgs_cons (pg_name (i := 8) scWo.nd rfl (.inl rfl)) pgs_nil)))
            (fun _ _ _ _ _ => pts_nil)
            (fun _ _ _ _ _ => pe_op op_mod (pe_op op_sub (pv 7) (pe_op op_mul (pv 6) (pv 8))) (pv 0)))) pss_nil))))
      (pss_one (ps_ret (pv 3)))), ?_⟩
    refine ⟨.ref a, rfl, .ref b, rfl, b, rfl, ⟨_, SqL.of hb⟩, for_list (K := K) (a := b) (xs := ks) (fun i σ H' => ∃ q y4 y5 y6, σ = [some (iv p), some (.ref a), some (.ref b), some (.ref q), y4, y5, y6, none, none] ∧ Same H H' ∧ H' q = some (.lst (ivs (redu p (kept.take i) r))))
      ⟨a, none, none, none, rfl, Same.refl _, ha⟩ ?_ ?_ ?_⟩
    · rintro i σ H' _ ⟨_, _, _, _, _, sm, _⟩
      exact sm.seq (SqL.of hb)
    · rintro i v σ H' hi ⟨q', y4, y5, y6, rfl, sm, hq'⟩
      obtain ⟨t, o, z, rfl, hz, ht, ho⟩ := KRows.at hks hi
      have hzi := (List.getElem?_eq_some_iff.mp hz).1
      obtain ⟨hz1, hz2⟩ := hk z (List.mem_of_getElem? hz)
      have hR := redu_ok h0 hk hrow i (by omega)
      rw [redu_succ hz]
      generalize redu p (kept.take i) r = R at hq' hR ⊢
      refine ⟨t, [iv z.1, .ref o], rfl, SqT.of (sm _ _ ht), rfl, iv z.1, [.ref o], rfl, .ref o, [], rfl, rfl, ?_⟩
      have hRz := getD_get (r := R) (i := z.1) (by rw [hR.len]; exact hz1)
      refine ⟨.ref q', rfl, iv z.1, rfl, q', _, (z.1 : Int), iv (R.getD z.1 0), rfl, rfl, SqL.of hq', atI_nat (ivs_get hRz), ?_⟩
      refine ⟨iv (R.getD z.1 0), rfl, rfl, _, rfl, ?_⟩
      show if (!decide (iv (R.getD z.1 0) = iv 0)) = true then _ else _
      rw [decide_iv]
      have hlt := hR.lt z.1
      by_cases c0 : R.getD z.1 0 = 0
      · rw [decide_eq_true c0]
        refine iteF ?_
        refine ⟨q', _, _, _, rfl, sm, ?_⟩
        rw [freed_zero h0 hR hz2 c0]
        exact hq'
      · rw [decide_eq_false c0]
        refine iteT ?_
        have ho' := sm _ _ ho
        refine ⟨.ref q', rfl, .ref o, rfl, q', o, _, _, rfl, SqL.of hq', SqL.of ho', fun D nD => ?_⟩
        refine lc_it (walk_zip (K := K) (a := q') (b := o) (xs := ivs R) (ys := ivs z.2) rfl) (fun j H3 => Same H' H3 ∧ H3 D = some (.lst (ivs (((R.zip z.2).take j).map fun y => (y.1 + (p - R.getD z.1 0) * y.2) % p)))) ⟨same_upd nD, upd_same⟩ ?_ ?_ ?_
        · rintro j H3 _ ⟨sm3, _⟩
          exact ⟨sm3.seq (SqL.of hq'), sm3.seq (SqL.of ho')⟩
        · rintro j v H3 H4 hj ⟨sm3, hD⟩ ⟨T, v1, v2, rfl, nT, rfl, hv1, hv2⟩
          obtain ⟨x, hx, rfl⟩ := ivs_at hv1
          obtain ⟨y, hy, rfl⟩ := ivs_at hv2
          have hxy : (R.zip z.2)[j]? = some (x, y) := List.getElem?_zip_eq_some.mpr ⟨hx, hy⟩
          have hjl : j < R.length := (List.getElem?_eq_some_iff.mp hx).1
          have hRl := hR.len
          refine ⟨T, [iv x, iv y], rfl, SqT.of upd_same, rfl, iv x, [iv y], rfl, iv y, [], rfl, rfl, rfl, ?_⟩
          have hD4 := (same_upd (o := .tup [iv x, iv y]) nT) _ _ hD
          unfold tYes
          refine iteT ?_
          refine ⟨iv x, rfl, iv (R.getD z.1 0), rfl, iv y, rfl, _, _, rfl, rfl, .inl ⟨by omega, by omega⟩, _, _, rfl, rfl, iv p, rfl, _, _, rfl, rfl, by omega, _, hD4, ?_, same_new (sm3.trans (same_upd nT)) nD, ?_⟩
          · rw [ivs_length, List.length_map, List.length_take]
            exact sz (by omega)
          · rw [upd_same, take_get hxy, List.map_append, ivs_append]
            show some (HO.lst (_ ++ [V.int (((x : Int) - ((R.getD z.1 0 : Nat) : Int) * (y : Int)) % (p : Int))])) = _
            rw [sub_mod (Nat.le_of_lt hlt)]
            rfl
        · rintro H3 ⟨sm3, hD⟩
          rw [ivs_length, ivs_length, List.take_of_length_le (by rw [List.length_zip]; exact Nat.le_refl _)] at hD
          exact ⟨D, _, _, _, rfl, sm.trans sm3, hD⟩
    · rintro σ H' ⟨q', y4, y5, y6, rfl, sm, hq'⟩
      rw [hks.len, List.take_length] at hq'
      exact ⟨_, rfl, q H' q' sm hq'⟩
theorem scTwf : FnScope ["terms", "factors", "factor", "term"] ["terms", "factors"] (defScope sTwf) := ⟨rfl, rfl, rfl, by decide +kernel, rfl, by decide +kernel, by decide +kernel⟩
theorem ok_twf {f : Addr} {fd : FuncData} {k : Nat} (F : Fun K "terms_with_factors" "terms_with_factors" sTwf f fd) (mz : mg "zip" = none) : FnOk P w K mg base CX0 (k + 1) f fd ["terms", "factors"] spTwf := by
  refine F.ok scTwf (fun vs H Q E h => ?_) (fun cdv A outer s H vs Q E hr h => ?_)
  · obtain ⟨a, b, rs, M, fs, rfl, _⟩ := h
    rfl
  · obtain ⟨a, b, rs, M, fs, rfl, ha, hrs, hb, hfl, hM, he, q⟩ := h
    have hl := hrs.len
    rw [List.length_map] at hl
    refine ⟨_, pss_one (ps_ret (pe_lc (own := [("factor", 2), ("term", 3)]) (g := gTup K 2 (gCons (gName 2) (gCons (gName 3) gNil))) (tt := tTest (tOp rNe (tVar 2) (tC (.int 0)))) (te := tOp rCat (tLst (tCons (tVar 2) tNil)) (tSl (rSlL K) (tVar 3) (tPart (tC (.int 1))) tNoPart)) (by rfl) scTwf.nd
        (pi_zip (by rfl) mz (pa_cons (pv 1) (pa_cons (pv 0) pa_nil)))
        (blkOk_by (own := [("factor", 2), ("term", 3)]) (N := ["terms", "factors", "factor", "term"]) (sc := defScope sTwf) (by decide +kernel))
        (fun _ _ _ _ _ => pg_tup rfl (pgs_cons (pg_name (i := 2) scTwf.nd rfl (.inl rfl)) (pgs_cons (pg_name (i := 3) scTwf.nd rfl (.inl rfl)) pgs_nil)))
        (fun _ _ _ _ _ => pts_one (pt_cmpR op_ne (pv 2) pe_int (nomark _)))
        (fun _ _ _ _ _ => pe_op op_cat (pe_lst (pa_cons (pv 2) pa_nil)) (pe_slice sl_list (pv 3) (po_some pe_int) po_none)))), ?_⟩
    refine ⟨.ref b, rfl, .ref a, rfl, b, a, _, _, rfl, SqL.of hb, SqL.of ha, fun D nD => ?_⟩
    refine lc_it (walk_zip (K := K) (a := b) (b := a) (xs := ivs fs) (ys := rs) rfl) (fun j H3 => Same H H3 ∧ ∃ rs2, H3 D = some (.lst rs2) ∧ V.ref D ∉ rs2 ∧ Rows H3 rs2 ((((fs.zip M).take j).filter fun y => y.1 != 0).map fun y => y.1 :: y.2)) ⟨same_upd nD, [], upd_same, by simp, .nil⟩ ?_ ?_ ?_
    · rintro j H3 _ ⟨sm3, _⟩
      exact ⟨sm3.seq (SqL.of hb), sm3.seq (SqL.of ha)⟩
    · rintro j v H3 H4 hj ⟨sm3, rs2, hD, hne, hr2⟩ ⟨T, v1, v2, rfl, nT, rfl, hv1, hv2⟩
      obtain ⟨c, hc, rfl⟩ := ivs_at hv1
      obtain ⟨r, t, rfl, ht, hrt⟩ := Rows.at hrs hv2
      obtain ⟨e, hMj, rfl⟩ := map_get ht
      have hz : (fs.zip M)[j]? = some (c, e) := List.getElem?_zip_eq_some.mpr ⟨hc, hMj⟩
      have hel := he e (List.mem_of_getElem? hMj)
      have hlen2 := hr2.len
      have hle : rs2.length ≤ 400 := by
        rw [hlen2, List.length_map]
        refine Nat.le_trans (List.length_filter_le _ _) ?_
        rw [List.length_take, List.length_zip]
        omega
      have smT : Same H3 (upd H3 T (.tup [iv c, .ref r])) := same_upd nT
      refine ⟨T, [iv c, .ref r], rfl, SqT.of upd_same, rfl, iv c, [.ref r], rfl, .ref r, [], rfl, rfl, rfl, ?_⟩
      refine ⟨iv c, rfl, rfl, _, rfl, ?_⟩
      show if (!decide (iv c = iv 0)) = true then _ else _
      rw [decide_iv]
      by_cases c0 : c = 0
      · rw [decide_eq_true c0]
        refine iteF ?_
        refine ⟨sm3.trans smT, rs2, smT _ _ hD, hne, ?_⟩
        rw [take_get hz, List.filter_append]
        have e2 : [(c, e)].filter (fun y => y.1 != 0) = [] := by simp [c0]
        rw [e2, List.append_nil]
        exact hr2.same smT
      · rw [decide_eq_false c0]
        refine iteT ?_
        refine ⟨iv c, rfl, by show 1 ≤ sizeLine; decide, fun l nl => ?_⟩
        have sml := smT.trans (same_upd (o := .lst [iv c]) nl)
        refine ⟨.ref r, rfl, 1, rfl, r, _, rfl, SqL.of (sml _ _ (sm3 _ _ hrt)), fun u nu => ?_⟩
        rw [cut_tail]
        have hul : u ≠ l := ne_free upd_same nu
        have smu := sml.trans (same_upd (o := .lst (ivs (1 :: e).tail)) nu)
        refine ⟨l, u, _, _, rfl, rfl, (by rw [upd_ne hul.symm, upd_same]), upd_same, ?_, fun z nz => ?_⟩
        · rw [ivs_length]
          show 1 + e.length ≤ _
          exact Nat.le_of_lt (sz (by omega))
        · have smz := smu.trans (same_upd (o := .lst ([iv c] ++ ivs (1 :: e).tail)) nz)
          have hzD : z ≠ D := ne_free (smu _ _ hD) nz
          have nd2 : V.ref D ∉ rs2 ++ [V.ref z] := fun hm => by
            rcases List.mem_append.mp hm with hm | hm
            · exact hne hm
            · exact hzD (V.ref.inj (List.mem_singleton.mp hm)).symm
          refine ⟨rs2, smz _ _ hD, sz (by omega), same_new (sm3.trans smz) nD, rs2 ++ [.ref z], upd_same, nd2, ?_⟩
          rw [take_get hz, List.filter_append]
          have e2 : [(c, e)].filter (fun y => y.1 != 0) = [(c, e)] := by simp [c0]
          rw [e2, List.map_append]
          refine Rows.upd (Rows.snoc (hr2.same smz) ?_) nd2
          rw [upd_same]
          rfl
    · rintro H3 ⟨sm3, rs2, hD, hne, hr2⟩
      rw [ivs_length, hl, hfl, Nat.min_self, poly_rows M fs M.length (Nat.le_refl _) (by omega), List.take_length] at hr2
      exact q H3 D rs2 sm3 nD hD hr2
end
end KM
namespace KM
open PySem PySem.Spec PyProof.Rows L2
open Kzt1 (Term powMod value coords total monos freed)
/-- what polynomial_of_set finds: none, or the first one -/
def Found (p n : Nat) (s : List Nat) (f : List Term) : Prop := (f = [] ∧ ∀ j < (monos p n (p - 1)).length, ∀ c, ¬ Nought p n (monos p n (p - 1)) s j c) ∨
  ∃ j c, j < (monos p n (p - 1)).length ∧ Nought p n (monos p n (p - 1)) s j c ∧ (∀ i < j, ∀ d, ¬ Nought p n (monos p n (p - 1)) s i d) ∧ f = polyOf ((monos p n (p - 1)).take (j + 1)) c
def spPset (K : PySem.W.Frag) : Sp := fun vs H Q _ => ∃ (p n : Nat) (a : Addr) (s : List Nat), vs = [iv p, iv n, .ref a] ∧ SqL K H a (ivs s) ∧ Pr p ∧ n ≤ 3 ∧ p ^ n ≤ 343 ∧ s.length ≤ 400 ∧
  ∀ (H' : Hp) (q : Addr) (rs : List V) (f : List Term), Same H H' → H q = none → H' q = some (.lst rs) → Rows H' rs (f.map tRow) → Found p n s f → Q (.ref q) H'
/-- the rows that are kept, apart from the list that holds them -/
def KX (kq : Addr) (H : Hp) (ks : List V) (kept : List (Nat × List Nat)) : Prop := Paired (fun v (z : Nat × List Nat) => ∃ t o, v = V.ref t ∧ H t = some (.tup [iv z.1, .ref o]) ∧ H o = some (.lst (ivs z.2)) ∧ t ≠ kq ∧ o ≠ kq) ks kept
theorem KX.rows {kq : Addr} {H : Hp} {ks : List V} {kept : List (Nat × List Nat)} (h : KX kq H ks kept) : KRows H ks kept := Paired.mono (fun v z ⟨t, o, e, h1, h2, _⟩ => ⟨t, o, e, h1, h2⟩) h
theorem KX.same {kq : Addr} {H H' : Hp} {ks : List V} {kept : List (Nat × List Nat)} (h : KX kq H ks kept) (s : Same H H') : KX kq H' ks kept :=
  Paired.mono (fun v z ⟨t, o, e, h1, h2, n1, n2⟩ => ⟨t, o, e, s _ _ h1, s _ _ h2, n1, n2⟩) h
theorem KX.upd {kq : Addr} {H : Hp} {ks : List V} {kept : List (Nat × List Nat)} {u : HO} (h : KX kq H ks kept) : KX kq (upd H kq u) ks kept :=
  Paired.mono (fun v z ⟨t, o, e, h1, h2, n1, n2⟩ => ⟨t, o, e, by rw [upd_ne n1]; exact h1, by rw [upd_ne n2]; exact h2, n1, n2⟩) h
theorem cut_from (r : List Nat) (k : Nat) (h : k ≤ r.length) : cutV (ivs r) (some (k : Int)) none = ivs (r.drop k) := by
  unfold cutV
  rw [HT.sIx_nat, HT.sIx_none, ivs_length, Nat.min_eq_left h]
  unfold ivs
  rw [List.take_of_length_le (by rw [List.length_drop, List.length_map]; exact Nat.le_refl _), List.map_drop]
theorem drop_getD (r : List Nat) (k m : Nat) : (r.drop k).getD m 0 = r.getD (k + m) 0 := by
  rw [List.getD_eq_getElem?_getD, List.getElem?_drop, List.getD_eq_getElem?_getD]
section
variable {P : Program} {w : World} {K : PySem.W.Frag} {mg : Str → Option Value} {base : Heap} {aP : Addr} {tM tW tN : Nat}
theorem scPset : FnScope ["p", "n", "s", "points", "terms", "kept", "place", "row", "pivot", "point"] ["p", "n", "s"] (defScope sPset) := ⟨rfl, rfl, rfl, by decide +kernel, rfl, by decide +kernel, by decide +kernel⟩
theorem ok_pset {f fC fN fD fR fV fL fO fW fI fS fF : Addr} {fd fdC fdN fdD fdR fdV fdL fdO fdW fdI fdS fdF : FuncData} {k : Nat} (F : Fun K "polynomial_of_set" "polynomial_of_set" sPset f fd)
    (FC : Fun K "count_points" "count_points" sCount fC fdC) (bC : Binds K fdC ["p", "n"] []) (gC : mg "count_points" = some (.ref fC))
    (FN : Fun K "numbers_of_point" "numbers_of_point" sNums fN fdN) (bN : Binds K fdN ["p", "n", "point"] []) (gN : mg "numbers_of_point" = some (.ref fN))
    (FD : Fun K "degree_of_term" "degree_of_term" sDeg fD fdD) (bD : Binds K fdD ["term"] []) (gD : mg "degree_of_term" = some (.ref fD))
    (FR : Fun K "rank_of_term" "rank_of_term" sRank fR fdR) (bR : Binds K fdR ["term"] []) (gR : mg "rank_of_term" = some (.ref fR))
    (FV : Fun K "value_of_term" "value_of_term" sVal fV fdV) (bV : Binds K fdV ["p", "term", "numbers"] []) (gV : mg "value_of_term" = some (.ref fV))
    (FL : Fun K "low_terms" "low_terms" sLow fL fdL) (bL : Binds K fdL ["p", "n"] []) (gL : mg "low_terms" = some (.ref fL))
    (FO : Fun K "row_of_term" "row_of_term" sRow fO fdO) (bO : Binds K fdO ["p", "terms", "place", "points"] []) (gO : mg "row_of_term" = some (.ref fO))
    (FW : Fun K "without_kept" "without_kept" sWo fW fdW) (bW : Binds K fdW ["p", "row", "kept"] []) (gW : mg "without_kept" = some (.ref fW))
    (FI : Fun K "first_place_not_0" "first_place_not_0" sFirst fI fdI) (bI : Binds K fdI ["row"] []) (gI : mg "first_place_not_0" = some (.ref fI))
    (FS : Fun K "scaled_row" "scaled_row" sScal fS fdS) (bS : Binds K fdS ["p", "row", "pivot"] []) (gS : mg "scaled_row" = some (.ref fS))
    (FF : Fun K "terms_with_factors" "terms_with_factors" sTwf fF fdF) (bF : Binds K fdF ["terms", "factors"] []) (gF : mg "terms_with_factors" = some (.ref fF))
    (ms : mg "sum" = none) (mo : mg "sorted" = none) (mz : mg "zip" = none) (ml : mg "len" = none) (me : mg "enumerate" = none) (T : Txt K mg aP tM tW tN) : FnOk P w K mg base CX0 (k + 5) f fd ["p", "n", "s"] (spPset K) := by
  have GN : FnOk P w K mg base CX0 (k + 4) fN fdN ["p", "n", "point"] spNums := ok_nums FN T
  have GL : FnOk P w K mg base CX0 (k + 4) fL fdL ["p", "n"] spLow := ok_low FL FC bC gC FN bN gN FD bD gD FR bR gR ms mo T
  have GO : FnOk P w K mg base CX0 (k + 4) fO fdO ["p", "terms", "place", "points"] spRow := ok_row FO FV bV gV mz ml T
  have GW : FnOk P w K mg base CX0 (k + 4) fW fdW ["p", "row", "kept"] spWo := ok_wo FW mz
  have GI : FnOk P w K mg base CX0 (k + 4) fI fdI ["row"] spFirst := ok_first FI me
  have GS : FnOk P w K mg base CX0 (k + 4) fS fdS ["p", "row", "pivot"] spScal := ok_scal FS T
  have GF : FnOk P w K mg base CX0 (k + 4) fF fdF ["terms", "factors"] spTwf := ok_twf FF mz
  refine F.ok scPset (fun vs H Q E h => ?_) (fun cdv A outer s H vs Q E hr h => ?_)
  · obtain ⟨p, n, a, s, rfl, _⟩ := h
    rfl
  · obtain ⟨p, n, a, s, rfl, hs, hp, hn, hw, hlen, q⟩ := h
    have hp7 : 2 ≤ p ∧ p ≤ 7 := by rcases hp with rfl | rfl | rfl | rfl <;> omega
    have hpos := hp.pos
    refine ⟨_, pss_cons (ps_setLc (i := 3) (own := [("point", 9)]) (g := gName 9) (tt := tYes) (te := tCall spNums [] E0 (tCons (tVar 0) (tCons (tVar 1) (tCons (tVar 9) tNil)))) (by rfl) scPset.nd rfl rfl (sw_true rfl rfl rfl (by decide +kernel)) (pi_list (pv 2))
          (blkOk_by (own := [("point", 9)]) (N := ["p", "n", "s", "points", "terms", "kept", "place", "row", "pivot", "point"]) (sc := defScope sPset) (by decide +kernel))
          (fun _ _ _ _ _ => pg_name (i := 9) scPset.nd rfl (.inl rfl)) (fun _ _ _ _ _ => pts_nil)
          (fun _ _ _ _ _ => pe_call GN hr (by rfl) gN FN.kp bN .nil pass0 (pa_cons (pv 0) (pa_cons (pv 1) (pa_cons (pv 9) pa_nil)))))
      (pss_cons (ps_set (i := 4) scPset.nd rfl (.inl rfl) (pe_call GL hr (by rfl) gL FL.kp bL .nil pass0 (pa_cons (pv 0) (pa_cons (pv 1) pa_nil))))
      (pss_cons (ps_set (i := 5) scPset.nd rfl (.inl rfl) (pe_lst pa_nil))
      (pss_cons (ps_for PassesOwn.never rfl (pi_range1 (by rfl) T.range (pa_cons (pe_callB call_len_seq (by rfl) ml PySem.boot_len (pa_cons (pv 4) pa_nil)) pa_nil)) (pg_name (i := 6) scPset.nd rfl (.inl rfl))
        (pss_cons (ps_set (i := 7) scPset.nd rfl (.inl rfl) (pe_call GW hr (by rfl) gW FW.kp bW .nil pass0 (pa_cons (pv 0) (pa_cons (pe_call GO hr (by rfl) gO FO.kp bO .nil pass0 (pa_cons (pv 0) (pa_cons (pv 4) (pa_cons (pv 6) (pa_cons (pv 3) pa_nil))))) (pa_cons (pv 5) pa_nil)))))
        (pss_cons (ps_set (i := 8) scPset.nd rfl (.inl rfl) (pe_call GI hr (by rfl) gI FI.kp bI .nil pass0 (pa_cons (pv 7) pa_nil)))
        (pss_cons (ps_if (pt_cmpR op_ge (pv 8) (pe_callB call_len_seq (by rfl) ml PySem.boot_len (pa_cons (pv 2) pa_nil)) (nomark _))
          (pss_one (ps_ret (pe_call GF hr (by rfl) gF FF.kp bF .nil pass0 (pa_cons (pv 4) (pa_cons (pe_slice sl_list (pv 7) (po_some (pe_callB call_len_seq (by rfl) ml PySem.boot_len (pa_cons (pv 2) pa_nil))) po_none) pa_nil))))) pss_nil)
        (pss_one (ps_expr (pe_bm PySem.F.plainAttrs_list PySem.F.slot_list_append PySem.F.type_list_append mt_append (pv 5) (pa_cons (pe_tup (pa_cons (pv 8) (pa_cons (pe_call GS hr (by rfl) gS FS.kp bS .nil pass0 (pa_cons (pv 0) (pa_cons (pv 7) (pa_cons (pv 8) pa_nil)))) pa_nil))) pa_nil)))))))
      )
      (pss_one (ps_ret (pe_lst pa_nil)))))), ?_⟩
    refine ⟨.ref a, rfl, a, rfl, ⟨_, hs⟩, fun D nD => ?_⟩
    refine lc_list (K := K) (a := a) (xs := ivs s) (fun j H3 => Same H H3 ∧ ∃ rs, H3 D = some (.lst rs) ∧ V.ref D ∉ rs ∧ Rows H3 rs ((s.take j).map (coords p n))) ⟨same_upd nD, [], upd_same, by simp, .nil⟩ ?_ ?_ ?_
    · rintro j H3 _ ⟨sm3, _⟩
      exact sm3.seq hs
    · rintro j v H3 hj ⟨sm3, rs, hD, hne, hrs⟩
      obtain ⟨x, hx, rfl⟩ := ivs_at hj
      have hl := hrs.len
      rw [List.length_map, List.length_take] at hl
      refine ⟨rfl, ?_⟩
      unfold tYes
      refine iteT ?_
      refine ⟨iv p, rfl, iv n, rfl, iv x, rfl, p, n, x, rfl, hpos, hp7.2, hn, fun H4 r sm4 nr hr4 => ?_⟩
      have hrD : r ≠ D := ne_free hD nr
      have nd2 : V.ref D ∉ rs ++ [V.ref r] := fun hm => by
        rcases List.mem_append.mp hm with hm | hm
        · exact hne hm
        · exact hrD (V.ref.inj (List.mem_singleton.mp hm)).symm
      refine ⟨rs, sm4 _ _ hD, sz (by omega), same_new (sm3.trans sm4) nD, rs ++ [.ref r], upd_same, nd2, ?_⟩
      rw [take_get hx, List.map_append]
      exact Rows.upd (Rows.snoc (hrs.same sm4) hr4) nd2
    · rintro H3 ⟨sm3, ps, hD, _, hps⟩
      rw [ivs_length, List.take_length] at hps
      refine ⟨iv p, rfl, iv n, rfl, p, n, rfl, hpos, hp7.2, hn, hw, fun H4 b ts sm4 nb hb hts => ?_⟩
      have hMl := monos_len p n (p - 1)
      have hMe : ∀ e ∈ monos p n (p - 1), (∀ k ∈ e, k ≤ 1000) ∧ e.length ≤ 100 := fun e he => by
        have := (monos_mem.mp he).1
        exact ⟨fun k hk => by have := this.2 k hk; omega, by omega⟩
      have hFd : ∀ f : List Term, Found p n s f → Found p n s f := fun _ h => h
      unfold Found at hFd q
      generalize hMM : monos p n (p - 1) = M at hts hMl hMe hFd q
      have htl := hts.len
      rw [List.length_map] at htl
      refine ⟨Nat.zero_le _, fun kq nkq => ?_⟩
      have smk : Same H4 (upd H4 kq (.lst [])) := same_upd nkq
      refine ⟨.ref b, rfl, b, ts, rfl, .inl (SqL.of (smk _ _ hb)), ((ts.length : Nat) : Int), rfl, by omega, by omega, for_range (n := (((ts.length : Nat) : Int)).toNat) (fun i σ H' => ∃ y6 y7 y8 ks kept, σ = [some (iv p), some (iv n), some (.ref a), some (.ref D), some (.ref b), some (.ref kq), y6, y7, y8, none] ∧ Same H4 H' ∧ H' kq = some (.lst ks) ∧ KX kq H' ks kept ∧ kept.length = i ∧ Kept p s.length M.length (entry p n M s) kept)
        ⟨none, none, none, [], [], rfl, smk, upd_same, .nil, rfl, kept_nil⟩ ?_ ?_⟩
      · rintro i σ H' hi ⟨y6, y7, y8, ks, kept, rfl, sm, hkq, hkx, hkl, hK⟩
        rw [Int.toNat_natCast, htl] at hi
        have ei : V.int (0 + (i : Int)) = iv i := congrArg V.int (Int.zero_add _)
        rw [ei]
        have sm04 : Same H H4 := sm3.trans sm4
        refine ⟨iv p, rfl, iv p, rfl, .ref b, rfl, iv i, rfl, .ref D, rfl, p, n, b, D, i, ts, ps, M, s, rfl, sm _ _ hb, hts.same sm, sm _ _ (sm4 _ _ hD), hps.same (sm4.trans sm), by omega, hp7.2, hi, by omega, hlen, fun e he => (hMe e he).1, fun H5 r0 sm5 nr0 hr0 => ?_⟩
        have kok : ∀ z ∈ kept, z.1 < s.length + M.length ∧ RowOk p (s.length + M.length) z.2 := fun z hz => by
          obtain ⟨l, hl⟩ := List.mem_iff_getElem?.mp hz
          have := hK.row l z hl
          exact ⟨Nat.lt_of_lt_of_le this.piv (by omega), this.ok⟩
        refine ⟨.ref kq, rfl, p, r0, kq, _, ks, kept, s.length + M.length, rfl, hr0, sm5 _ _ hkq, (hkx.same sm5).rows, hpos, hp7.2, by omega, rowJ_ok hp i, kok, fun H6 r1 sm6 hr1 => ?_⟩
        have RS := redu_spec hpos hK (rowJ_ok (n := n) (M := M) (s := s) hp i) (rowJ_con hp hi) kept.length (Nat.le_refl _)
        rw [List.take_length] at RS
        generalize redu p kept (rowJ p n M s i) = R at RS hr1
        have hRlen := RS.ok.len
        have one : cf s.length R kept.length = 1 := by
          rw [RS.same _ (Nat.le_refl _), rowJ_cf, if_pos ⟨hkl, hi⟩]
        have off : ∀ m, kept.length < m → cf s.length R m = 0 := fun m hm => by
          rw [RS.same m (by omega), rowJ_cf, if_neg (by omega)]
        have hex : ∃ m < R.length, (fun m => R.getD m 0 != 0) m = true := by
          refine ⟨s.length + kept.length, by omega, ?_⟩
          have one' : R.getD (s.length + kept.length) 0 = 1 := one
          show (R.getD (s.length + kept.length) 0 != 0) = true
          rw [one']
          rfl
        obtain ⟨pv, hpv, hne, hlo⟩ := least_place hex
        have hne' : R.getD pv 0 ≠ 0 := by simpa using hne
        have hlo' : ∀ m < pv, R.getD m 0 = 0 := fun m hm => by
          have : (R.getD m 0 != 0) = false := hlo m hm
          simpa using this
        refine ⟨.ref r1, rfl, r1, R, pv, rfl, hr1, by omega, hpv, hne', hlo', fun H7 sm7 => ?_⟩
        have smA : Same H4 H7 := sm.trans (sm5.trans (sm6.trans sm7))
        have hr1' := sm7 _ _ hr1
        refine ⟨iv pv, rfl, .ref a, rfl, a, ivs s, rfl, .inl ((sm04.trans smA).seq hs), _, _, rfl, rfl, _, rfl, ?_⟩
        show if decide ((((ivs s).length : Nat) : Int) ≤ (pv : Int)) = true then _ else _
        rw [ivs_length]
        by_cases hc : s.length ≤ pv
        · rw [decide_eq_true (show ((s.length : Nat) : Int) ≤ (pv : Int) by omega)]
          refine iteT ?_
          refine ⟨.ref b, rfl, .ref r1, rfl, .ref a, rfl, a, ivs s, rfl, .inl ((sm04.trans smA).seq hs), _, rfl, r1, _, rfl, SqL.of hr1', fun u nu => ?_⟩
          rw [ivs_length, cut_from R s.length (by omega)]
          have smu : Same H7 (upd H7 u (.lst (ivs (R.drop s.length)))) := same_upd nu
          have hct : (fun m => (R.drop s.length).getD m 0) = cf s.length R := by
            funext m
            exact drop_getD R s.length m
          refine ⟨b, u, ts, M, R.drop s.length, rfl, smu _ _ (smA _ _ hb), hts.same (smA.trans smu), upd_same, by rw [List.length_drop]; omega, by omega, fun e he => (hMe e he).2, fun H8 z rs' sm8 nz hz hrs' => ?_⟩
          rw [hct] at hrs'
          refine q H8 z rs' _ (sm04.trans (smA.trans (smu.trans sm8))) ?_ hz hrs' (.inr ⟨i, cf s.length R, hi, ?_, ?_, ?_⟩)
          · exact (sm04.trans (smA.trans smu)).free nz
          · rw [← hkl]
            exact nought_here RS.ok RS.con one off fun m hm => hlo' m (by omega)
          · rw [← hkl]
            exact no_nought hp hK
          · exact polyOf_whole hi fun m hm => off m (by omega)
        · rw [decide_eq_false (show ¬ ((s.length : Nat) : Int) ≤ (pv : Int) by omega)]
          refine iteF ?_
          have hkq7 := sm7 _ _ (sm6 _ _ (sm5 _ _ hkq))
          refine ⟨.ref kq, rfl, .inl ⟨rfl, _, SqL.of hkq7⟩, iv pv, rfl, iv p, rfl, .ref r1, rfl, iv pv, rfl, p, r1, R, pv, rfl, hr1', hp, by omega, hpv, hne', RS.ok.lt pv, fun H8 o t sm8 no ht htp ho => ?_⟩
          refine ⟨by show 2 ≤ sizeLine; decide, fun tp ntp => ?_⟩
          have hkq8 := sm8 _ _ hkq7
          have hokq : o ≠ kq := ne_free hkq7 no
          have htkq : tp ≠ kq := ne_free hkq8 ntp
          have smt : Same H8 (upd H8 tp (.tup [iv pv, .ref o])) := same_upd ntp
          have hksl : ks.length = kept.length := hkx.rows.len
          refine ⟨kq, ks, _, rfl, rfl, smt _ _ hkq8, sz (by omega), some (iv i), some (.ref r1), some (iv pv), ks ++ [.ref tp], kept ++ [(pv, R.map fun x => t * x % p)], rfl, same_new (smA.trans (sm8.trans smt)) nkq, upd_same, ?_, by rw [List.length_append, hkl]; rfl, ?_⟩
          · refine KX.upd (Paired.snoc (hkx.same ((sm5.trans (sm6.trans sm7)).trans (sm8.trans smt))) ⟨tp, o, rfl, upd_same, smt _ _ ho, htkq, hokq⟩)
          · refine kept_snoc hp hK (by omega) RS.ok RS.con (fun y hy => ?_) one off (by omega) ht htp
            obtain ⟨l, hl⟩ := List.mem_iff_getElem?.mp hy
            exact RS.nought l (List.getElem?_eq_some_iff.mp hl).1 y hl
      · rintro σ H' ⟨y6, y7, y8, ks, kept, rfl, sm, hkq, hkx, hkl, hK⟩
        rw [Int.toNat_natCast, htl] at hkl
        refine ⟨Nat.zero_le _, fun u nu => ?_⟩
        refine q _ u [] [] (((sm3.trans sm4).trans sm).trans (same_upd nu)) (((sm3.trans sm4).trans sm).free nu) upd_same .nil (.inl ⟨rfl, ?_⟩)
        rw [← hkl]
        exact no_nought hp hK
end
end KM
namespace KM
open PySem PySem.Spec PyProof.Rows L2
open Kzt1 (Term powMod value coords total monos freed at1 degree least)
def spFd : Sp := fun vs H Q _ => ∃ (p n : Nat) (a : Addr) (rs : List V) (f : List Term) (v0 : Nat), vs = [iv p, iv n, .ref a] ∧ H a = some (.lst rs) ∧ Rows H rs (f.map tRow) ∧ 1 < p ∧ p ≤ 7 ∧ n ≤ 3 ∧ p ^ n ≤ 343 ∧ f.length ≤ 1000 ∧ (∀ t ∈ f, t.c < p ∧ ∀ k ∈ t.e, k ≤ 1000) ∧ ((Kzt2.directions p n).find? fun v => at1 p n f v != 0) = some v0 ∧ ∀ H' : Hp, Same H H' → Q (iv v0) H'
def spTold (K : PySem.W.Frag) : Sp := fun vs H Q _ => ∃ (p n : Int) (a : Addr) (s : List Int), vs = [.int p, .int n, .ref a] ∧ 0 ≤ p ∧ 0 ≤ n ∧ SqL K H a (s.map V.int) ∧ s.length ≤ 400 ∧ (∀ z ∈ s, 0 ≤ z) ∧ ∀ (H' : Hp) (r : Addr), H' r = some (.lst ((PyKzt2.told p n s).map V.int)) → Q (.ref r) H'
theorem ivs_ints (s : List Nat) : (s.map (fun (y : Nat) => (y : Int))).map V.int = ivs s := by
  rw [List.map_map]
  rfl
theorem told_at (p n : Nat) (s : List Nat) : PyKzt2.told p n (s.map fun (y : Nat) => (y : Int)) = (Kzt2.answer (.told p n s)).value :: (Kzt2.answer (.told p n s)).nums := by
  show ((Kzt2.answer (.told p n ((s.map fun (y : Nat) => (y : Int)).map Int.toNat))).value :: (Kzt2.answer (.told p n ((s.map fun (y : Nat) => (y : Int)).map Int.toNat))).nums) = _
  rw [natsOf_map]
theorem told_no (p n : Nat) (s : List Nat) (h : Kzt1.okField p n = false ∨ Kzt1.okSet p n s = false) : PyKzt2.told p n (s.map fun (y : Nat) => (y : Int)) = [-22] := by
  rw [told_at]
  unfold Kzt2.answer Kzt2.withSet
  dsimp only
  rw [if_pos h]
  rfl
theorem told_nil (p n : Nat) (s : List Nat) (h1 : Kzt1.okField p n = true) (h2 : Kzt1.okSet p n s = true) (h : Kzt2.told1 p n s = none) : PyKzt2.told p n (s.map fun (y : Nat) => (y : Int)) = [-33] := by
  rw [told_at]
  unfold Kzt2.answer Kzt2.withSet
  dsimp only
  rw [if_neg (fun z => z.elim (fun a => by rw [h1] at a; cases a) (fun b => by rw [h2] at b; cases b)), h]
  rfl
theorem told_yes (p n : Nat) (s : List Nat) (h1 : Kzt1.okField p n = true) (h2 : Kzt1.okSet p n s = true) {v d : Nat} {f : List Term} (h : Kzt2.told1 p n s = some v) (hl : least p n s = some (d, f)) : PyKzt2.told p n (s.map fun (y : Nat) => (y : Int)) = [(v : Int), (d : Int)] := by
  rw [told_at]
  unfold Kzt2.answer Kzt2.withSet
  dsimp only
  rw [if_neg (fun z => z.elim (fun a => by rw [h1] at a; cases a) (fun b => by rw [h2] at b; cases b)), h, hl]
theorem filter_take {f : Nat → Bool} {l : List Nat} {i c : Nat} (h : l[i]? = some c) : (l.take (i + 1)).filter f = (l.take i).filter f ++ (if f c then [c] else []) := by
  rw [List.take_add_one, h, List.filter_append]
  cases e : f c <;> simp [e]
theorem dirs_len (p n : Nat) : (Kzt2.directions p n).length ≤ p ^ n := by
  rw [directions_eq]
  exact Nat.le_trans (List.length_filter_le _ _) (Nat.le_of_eq List.length_range)
section
variable {P : Program} {w : World} {K : PySem.W.Frag} {mg : Str → Option Value} {base : Heap} {aP : Addr} {tM tW tN tR : Nat}
theorem scFd : FnScope ["p", "n", "highest", "ways", "v"] ["p", "n", "highest"] (defScope sFd) := ⟨rfl, rfl, rfl, by decide +kernel, rfl, by decide +kernel, by decide +kernel⟩
theorem ok_fd {f fC fP fN fD fA fV fX : Addr} {fd fdC fdP fdN fdD fdA fdV fdX : FuncData} {k : Nat} (F : Fun K "first_direction_not_0" "first_direction_not_0" sFd f fd)
    (FC : Fun K "count_points" "count_points" sCount fC fdC) (bC : Binds K fdC ["p", "n"] []) (gC : mg "count_points" = some (.ref fC))
    (FP : Fun K "is_point" "is_point" sPoint fP fdP) (bP : Binds K fdP ["p", "n", "x"] []) (gP : mg "is_point" = some (.ref fP))
    (FN : Fun K "numbers_of_point" "numbers_of_point" sNums fN fdN) (bN : Binds K fdN ["p", "n", "point"] []) (gN : mg "numbers_of_point" = some (.ref fN))
    (FD : Fun K "is_direction" "is_direction" sDir fD fdD) (bD : Binds K fdD ["p", "n", "v"] []) (gD : mg "is_direction" = some (.ref fD))
    (FA : Fun K "all_directions" "all_directions" sAll fA fdA) (bA : Binds K fdA ["p", "n"] []) (gA : mg "all_directions" = some (.ref fA))
    (FV : Fun K "value_of_term" "value_of_term" sVal fV fdV) (bV : Binds K fdV ["p", "term", "numbers"] []) (gV : mg "value_of_term" = some (.ref fV))
    (FX : Fun K "value_of_terms" "value_of_terms" sVals fX fdX) (bX : Binds K fdX ["p", "terms", "numbers"] []) (gX : mg "value_of_terms" = some (.ref fX))
    (ms : mg "sum" = none) (mz : mg "zip" = none) (T : Txt K mg aP tM tW tN) : FnOk P w K mg base CX0 (k + 5) f fd ["p", "n", "highest"] spFd := by
  have GA : FnOk P w K mg base CX0 (k + 4) fA fdA ["p", "n"] spAll := ok_all FA FC bC gC FP bP gP FN bN gN FD bD gD T
  have GN : FnOk P w K mg base CX0 (k + 4) fN fdN ["p", "n", "point"] spNums := ok_nums FN T
  have GX : FnOk P w K mg base CX0 (k + 4) fX fdX ["p", "terms", "numbers"] spVals := ok_vals FX FV bV gV mz ms T
  refine F.ok scFd (fun vs H Q E h => ?_) (fun cdv A outer s H vs Q E hr h => ?_)
  · obtain ⟨p, n, a, rs, f, v0, rfl, _⟩ := h
    rfl
  · obtain ⟨p, n, a, rs, f, v0, rfl, ha, hrs, h1, hp, hn, hw, hfl, hf, hv0, q⟩ := h
    have hdl := dirs_len p n
    refine ⟨_, pss_cons (ps_set (i := 3) scFd.nd rfl (.inl rfl) (pe_call GA hr (by rfl) gA FA.kp bA .nil pass0 (pa_cons (pv 0) (pa_cons (pv 1) pa_nil))))
      (pss_one (ps_ret (pe_ix ix_list (pe_lc (own := [("v", 4)]) (g := gName 4) (tt := tTest (tOp rNe (tCall spVals [] E0 (tCons (tVar 0) (tCons (tVar 2) (tCons (tCall spNums [] E0 (tCons (tVar 0) (tCons (tVar 1) (tCons (tVar 4) tNil)))) tNil)))) (tC (.int 0)))) (te := tVar 4) (by rfl) scFd.nd (pi_list (pv 3))
        (blkOk_by (own := [("v", 4)]) (N := ["p", "n", "highest", "ways", "v"]) (sc := defScope sFd) (by decide +kernel))
        (fun _ _ _ _ _ => pg_name (i := 4) scFd.nd rfl (.inl rfl))
        (fun _ _ _ _ _ => pts_one (pt_cmpR op_ne (pe_call GX hr (by rfl) gX FX.kp bX .nil pass0 (pa_cons (pv 0) (pa_cons (pv 2) (pa_cons (pe_call GN hr (by rfl) gN FN.kp bN .nil pass0 (pa_cons (pv 0) (pa_cons (pv 1) (pa_cons (pv 4) pa_nil)))) pa_nil)))) pe_int (nomark _)))
        (fun _ _ _ _ _ => pv 4)) pe_int (fun _ _ => rfl)))), ?_⟩
    refine ⟨iv p, rfl, iv n, rfl, p, n, rfl, by omega, hp, hn, hw, fun H1 b sm1 nb hb => ?_⟩
    refine ⟨.ref b, rfl, b, rfl, ⟨_, SqL.of hb⟩, fun D nD => ?_⟩
    refine lc_list (K := K) (a := b) (xs := ivs (Kzt2.directions p n)) (fun j H3 => Same H1 H3 ∧ H3 D = some (.lst (ivs (((Kzt2.directions p n).take j).filter fun v => at1 p n f v != 0)))) ⟨same_upd nD, upd_same⟩ ?_ ?_ ?_
    · rintro j H3 _ ⟨sm3, _⟩
      exact sm3.seq (SqL.of hb)
    · rintro j x H3 hj ⟨sm3, hD⟩
      obtain ⟨v, hv, rfl⟩ := ivs_at hj
      refine ⟨rfl, ?_⟩
      refine ⟨iv p, rfl, .ref a, rfl, iv p, rfl, iv n, rfl, iv v, rfl, p, n, v, rfl, by omega, hp, hn, fun H4 c sm4 nc hc => ?_⟩
      have smA : Same H H4 := sm1.trans (sm3.trans sm4)
      refine ⟨p, a, c, rs, f, coords p n v, rfl, smA _ _ ha, hrs.same smA, hc, h1, hp, hfl, hf, fun y hy => ?_, fun H5 sm5 => ?_⟩
      · have := coords_lt (p := p) (by omega) y hy
        omega
      · refine ⟨rfl, _, rfl, ?_⟩
        show if (!decide (iv (at1 p n f v) = iv 0)) = true then _ else _
        rw [decide_iv]
        have hD5 := sm5 _ _ (sm4 _ _ hD)
        by_cases c0 : at1 p n f v = 0
        · rw [decide_eq_true c0]
          refine iteF ?_
          refine ⟨sm3.trans (sm4.trans sm5), ?_⟩
          rw [filter_take hv, if_neg (by rw [c0]; exact Bool.noConfusion), List.append_nil]
          exact hD5
        · rw [decide_eq_false c0]
          refine iteT ?_
          refine ⟨iv v, rfl, _, hD5, ?_, same_new (sm3.trans (sm4.trans sm5)) nD, ?_⟩
          · rw [ivs_length]
            refine sz (Nat.le_trans (List.length_filter_le _ _) ?_)
            rw [List.length_take]
            omega
          · rw [upd_same, filter_take hv, if_pos (by simpa using c0), ivs_append]
            rfl
    · rintro H3 ⟨sm3, hD⟩
      rw [ivs_length, List.take_length] at hD
      have hh : ((Kzt2.directions p n).filter fun v => at1 p n f v != 0)[0]? = some v0 := by
        rw [← List.head?_eq_getElem?, List.head?_filter]
        exact hv0
      exact ⟨D, _, 0, iv v0, rfl, rfl, SqL.of hD, atI_nat (ivs_get hh), q H3 (sm1.trans sm3)⟩
theorem scTop : FnScope ["p", "n", "s", "highest"] ["p", "n", "s"] (defScope sTop) := ⟨rfl, rfl, rfl, by decide +kernel, rfl, by decide +kernel, by decide +kernel⟩
theorem ok_top {f fS fC fP fN fI fD fA fG fR fH fV fX fL fE fO fW fZ fY fF fT : Addr} {fd fdS fdC fdP fdN fdI fdD fdA fdG fdR fdH fdV fdX fdL fdE fdO fdW fdZ fdY fdF fdT : FuncData} (F : Fun K "told" "told" sTop f fd)
    (FS : Fun K "is_space" "is_space" sSpace fS fdS) (bS : Binds K fdS ["p", "n"] []) (gS : mg "is_space" = some (.ref fS))
    (FC : Fun K "count_points" "count_points" sCount fC fdC) (bC : Binds K fdC ["p", "n"] []) (gC : mg "count_points" = some (.ref fC))
    (FP : Fun K "is_point" "is_point" sPoint fP fdP) (bP : Binds K fdP ["p", "n", "x"] []) (gP : mg "is_point" = some (.ref fP))
    (FN : Fun K "numbers_of_point" "numbers_of_point" sNums fN fdN) (bN : Binds K fdN ["p", "n", "point"] []) (gN : mg "numbers_of_point" = some (.ref fN))
    (FI : Fun K "is_set" "is_set" sSet fI fdI) (bI : Binds K fdI ["p", "n", "s"] []) (gI : mg "is_set" = some (.ref fI))
    (FD : Fun K "is_direction" "is_direction" sDir fD fdD) (bD : Binds K fdD ["p", "n", "v"] []) (gD : mg "is_direction" = some (.ref fD))
    (FA : Fun K "all_directions" "all_directions" sAll fA fdA) (bA : Binds K fdA ["p", "n"] []) (gA : mg "all_directions" = some (.ref fA))
    (FG : Fun K "degree_of_term" "degree_of_term" sDeg fG fdG) (bG : Binds K fdG ["term"] []) (gG : mg "degree_of_term" = some (.ref fG))
    (FR : Fun K "rank_of_term" "rank_of_term" sRank fR fdR) (bR : Binds K fdR ["term"] []) (gR : mg "rank_of_term" = some (.ref fR))
    (FH : Fun K "highest_terms" "highest_terms" sHigh fH fdH) (bH : Binds K fdH ["terms"] []) (gH : mg "highest_terms" = some (.ref fH))
    (FV : Fun K "value_of_term" "value_of_term" sVal fV fdV) (bV : Binds K fdV ["p", "term", "numbers"] []) (gV : mg "value_of_term" = some (.ref fV))
    (FX : Fun K "value_of_terms" "value_of_terms" sVals fX fdX) (bX : Binds K fdX ["p", "terms", "numbers"] []) (gX : mg "value_of_terms" = some (.ref fX))
    (FL : Fun K "low_terms" "low_terms" sLow fL fdL) (bL : Binds K fdL ["p", "n"] []) (gL : mg "low_terms" = some (.ref fL))
    (FE : Fun K "polynomial_of_set" "polynomial_of_set" sPset fE fdE) (bE : Binds K fdE ["p", "n", "s"] []) (gE : mg "polynomial_of_set" = some (.ref fE))
    (FO : Fun K "row_of_term" "row_of_term" sRow fO fdO) (bO : Binds K fdO ["p", "terms", "place", "points"] []) (gO : mg "row_of_term" = some (.ref fO))
    (FW : Fun K "without_kept" "without_kept" sWo fW fdW) (bW : Binds K fdW ["p", "row", "kept"] []) (gW : mg "without_kept" = some (.ref fW))
    (FZ : Fun K "first_place_not_0" "first_place_not_0" sFirst fZ fdZ) (bZ : Binds K fdZ ["row"] []) (gZ : mg "first_place_not_0" = some (.ref fZ))
    (FY : Fun K "scaled_row" "scaled_row" sScal fY fdY) (bY : Binds K fdY ["p", "row", "pivot"] []) (gY : mg "scaled_row" = some (.ref fY))
    (FF : Fun K "terms_with_factors" "terms_with_factors" sTwf fF fdF) (bF : Binds K fdF ["terms", "factors"] []) (gF : mg "terms_with_factors" = some (.ref fF))
    (FT : Fun K "first_direction_not_0" "first_direction_not_0" sFd fT fdT) (bT : Binds K fdT ["p", "n", "highest"] []) (gT : mg "first_direction_not_0" = some (.ref fT))
    (g33 : mg "NONE_TOLD" = some (.int (-33) tR)) (ms : mg "sum" = none) (mo : mg "sorted" = none) (mz : mg "zip" = none) (ml : mg "len" = none) (me : mg "enumerate" = none) (mx : mg "max" = none) (T : Txt K mg aP tM tW 0) : FnOk P w K mg base CX0 6 f fd ["p", "n", "s"] (spTold K) := by
  have GS : FnOk P w K mg base CX0 5 fS fdS ["p", "n"] spSpace := ok_space FS T
  have GI : FnOk P w K mg base CX0 5 fI fdI ["p", "n", "s"] (spSet K) := ok_set FI FC bC gC T
  have GE : FnOk P w K mg base CX0 5 fE fdE ["p", "n", "s"] (spPset K) := ok_pset FE FC bC gC FN bN gN FG bG gG FR bR gR FV bV gV FL bL gL FO bO gO FW bW gW FZ bZ gZ FY bY gY FF bF gF ms mo mz ml me T
  have GH : FnOk P w K mg base CX0 5 fH fdH ["terms"] spHigh := ok_high FH FG bG gG ms mx
  have GG : FnOk P w K mg base CX0 5 fG fdG ["term"] spDeg := ok_deg FG ms
  have GT : FnOk P w K mg base CX0 5 fT fdT ["p", "n", "highest"] spFd := ok_fd FT FC bC gC FP bP gP FN bN gN FD bD gD FA bA gA FV bV gV FX bX gX ms mz T
  refine F.ok scTop (fun vs H Q E h => ?_) (fun cdv A outer s H vs Q E hr h => ?_)
  · obtain ⟨p, n, a, s, rfl, _⟩ := h
    rfl
  · obtain ⟨p, n, a, s, rfl, hp0, hn0, hs, hlen, hz, q⟩ := h
    obtain ⟨p, rfl⟩ := Int.eq_ofNat_of_zero_le hp0
    obtain ⟨n, rfl⟩ := Int.eq_ofNat_of_zero_le hn0
    obtain ⟨s, rfl⟩ := nat_list s hz
    rw [List.length_map] at hlen
    rw [ivs_ints] at hs
    refine ⟨_, pss_cons (ps_if (PW.pt (pw_or (pt_not (pt_val (pe_call GS hr (by rfl) gS FS.kp bS .nil pass0 (pa_cons (pv 0) (pa_cons (pv 1) pa_nil))))) (pw_or1 (pt_not (pt_val (pe_call GI hr (by rfl) gI FI.kp bI .nil pass0 (pa_cons (pv 0) (pa_cons (pv 1) (pa_cons (pv 2) pa_nil)))))))))
        (pss_one (ps_ret (pe_lst (pa_cons (pe_glob (v := .int (-22)) (by rfl) T.gW ⟨_, rfl⟩) pa_nil)))) pss_nil)
      (pss_cons (ps_set (i := 3) scTop.nd rfl (.inl rfl) (pe_call GH hr (by rfl) gH FH.kp bH .nil pass0 (pa_cons (pe_call GE hr (by rfl) gE FE.kp bE .nil pass0 (pa_cons (pv 0) (pa_cons (pv 1) (pa_cons (pv 2) pa_nil)))) pa_nil)))
      (pss_cons (ps_if (pt_cmpR op_eq (pe_callB call_len_seq (by rfl) ml PySem.boot_len (pa_cons (pv 3) pa_nil)) pe_int (nomark _)) (pss_one (ps_ret (pe_lst (pa_cons (pe_glob (v := .int (-33)) (by rfl) g33 ⟨_, rfl⟩) pa_nil)))) pss_nil)
      (pss_one (ps_ret (pe_lst (pa_cons (pe_call GT hr (by rfl) gT FT.kp bT .nil pass0 (pa_cons (pv 0) (pa_cons (pv 1) (pa_cons (pv 3) pa_nil)))) (pa_cons (pe_call GG hr (by rfl) gG FG.kp bG .nil pass0 (pa_cons (pe_ix ix_list (pv 3) pe_int (fun _ _ => rfl)) pa_nil)) pa_nil))))))), ?_⟩
    refine ⟨iv p, rfl, iv n, rfl, p, n, rfl, _, rfl, ?_⟩
    cases hok : Kzt1.okField p n with
    | false =>
      refine iteT ?_
      refine iteT ?_
      refine ⟨by show 1 ≤ sizeLine; decide, fun l nl => ?_⟩
      refine q _ l ?_
      rw [told_no p n s (.inl hok), upd_same]
      rfl
    | true =>
      refine iteF ?_
      obtain ⟨hpc, hn1, hn3⟩ := ok_cases hok
      have hPr : Pr p := hpc
      have hp2 : 2 ≤ p ∧ p ≤ 7 := by omega
      have hw := ok_pow hok
      refine ⟨iv p, rfl, iv n, rfl, .ref a, rfl, p, n, a, s, rfl, hs, hp2.2, hn3, _, rfl, ?_⟩
      cases hset : Kzt1.okSet p n s with
      | false =>
        refine iteT ?_
        refine ⟨by show 1 ≤ sizeLine; decide, fun l nl => ?_⟩
        refine q _ l ?_
        rw [told_no p n s (.inr hset), upd_same]
        rfl
      | true =>
        refine iteF ?_
        refine ⟨iv p, rfl, iv n, rfl, .ref a, rfl, p, n, a, s, rfl, hs, hPr, hn3, hw, hlen, fun H1 b rs f sm1 nb hb hrs hF => ?_⟩
        have hfl : f.length ≤ 343 := by
          rcases hF with ⟨rfl, _⟩ | ⟨j, c, hj, _, _, rfl⟩
          · exact Nat.zero_le _
          · unfold polyOf
            refine Nat.le_trans (List.length_filter_le _ _) ?_
            rw [List.length_map, List.length_zipIdx, List.length_take]
            have := monos_len p n (p - 1)
            omega
        refine ⟨b, rs, f.map tRow, rfl, hb, hrs, by rw [List.length_map]; omega, fun H2 c rs2 sm2 nc hc hrs2 => ?_⟩
        rw [hiT_top] at hrs2
        have hl2 := hrs2.len
        rw [List.length_map] at hl2
        have htop : (Kzt2.top f).length ≤ 343 := Nat.le_trans (List.length_filter_le _ _) hfl
        refine ⟨.ref c, rfl, c, rs2, rfl, .inl (SqL.of hc), rfl, _, rfl, ?_⟩
        show if decide (iv rs2.length = iv 0) = true then _ else _
        rw [decide_iv, hl2]
        rcases hF with ⟨rfl, hnone⟩ | ⟨j, cc, hj, hN, hmin, rfl⟩
        · have e0 : (Kzt2.top []).length = 0 := rfl
          rw [e0]
          refine iteT ?_
          refine ⟨by show 1 ≤ sizeLine; decide, fun l nl => ?_⟩
          refine q _ l ?_
          rw [told_nil p n s hok hset (told_none hPr hnone), upd_same]
          rfl
        · obtain ⟨v0, hv0⟩ := told_found hPr (by simp; omega) hj hN hmin
          have hleast := least_some hPr hj hN hmin
          have hdeg := degree_poly (c := cc) hj hN.one
          have hfind : ((Kzt2.directions p n).find? fun v => at1 p n (Kzt2.top (polyOf ((monos p n (p - 1)).take (j + 1)) cc)) v != 0) = some v0 := by
            rw [← hv0, told_some hPr hj hN hmin]
            congr 1
            funext v
            rw [hi_eq hPr.pos hj hN.one]
          have htm : ∀ t ∈ Kzt2.top (polyOf ((monos p n (p - 1)).take (j + 1)) cc), (t.c < p ∧ ∀ k ∈ t.e, k ≤ 1000) ∧ total t.e = total ((monos p n (p - 1)).getD j []) := fun t ht => by
            obtain ⟨h1, h2⟩ := List.mem_filter.mp ht
            obtain ⟨m, hm, rfl, _⟩ := mem_polyOf.mp h1
            rw [List.length_take] at hm
            refine ⟨⟨hN.lt m, fun k hk => ?_⟩, ?_⟩
            · have hmem : ((monos p n (p - 1)).take (j + 1)).getD m [] ∈ monos p n (p - 1) := by
                rw [getD_take (by omega), List.getD_eq_getElem?_getD, List.getElem?_eq_getElem (by omega)]
                exact List.getElem_mem _
              have := (monos_mem.mp hmem).1.2 k hk
              omega
            · rw [hdeg] at h2
              simpa using h2
          have hne : (Kzt2.top (polyOf ((monos p n (p - 1)).take (j + 1)) cc)) ≠ [] := by
            intro e
            rw [e] at hfind
            have hz : ∀ v, at1 p n [] v = 0 := fun v => by
              show 0 % p = 0
              exact Nat.zero_mod _
            have hnf : ((Kzt2.directions p n).find? fun v => at1 p n [] v != 0) = none := by
              rw [List.find?_eq_none]
              intro v _
              rw [hz v]
              simp
            rw [hnf] at hfind
            cases hfind
          generalize Kzt2.top (polyOf ((monos p n (p - 1)).take (j + 1)) cc) = g at *
          cases g with
          | nil => exact absurd rfl hne
          | cons t0 g =>
            have e0 : decide ((t0 :: g).length = 0) = false := decide_eq_false (by rw [List.length_cons]; omega)
            rw [e0]
            refine iteF ?_
            refine ⟨iv p, rfl, iv n, rfl, .ref c, rfl, p, n, c, rs2, t0 :: g, v0, rfl, hc, hrs2, by omega, hp2.2, hn3, hw, by omega, fun t ht => (htm t ht).1, hfind, fun H3 sm3 => ?_⟩
            have hpos0 : 0 < rs2.length := by
              rw [hl2, List.length_cons]
              omega
            have hr0 : rs2[0]? = some rs2[0] := List.getElem?_eq_getElem hpos0
            obtain ⟨r, t, er, ht, hrt⟩ := Rows.at hrs2 hr0
            rw [er] at hr0
            obtain rfl : tRow t0 = t := Option.some.inj ht
            refine ⟨.ref c, rfl, c, rs2, 0, .ref r, rfl, rfl, SqL.of (sm3 _ _ hc), atI_nat hr0, r, _, rfl, sm3 _ _ hrt, fun H4 sm4 => ?_⟩
            refine ⟨by show 2 ≤ sizeLine; decide, fun l nl => ?_⟩
            refine q _ l ?_
            rw [told_yes p n s hok hset hv0 hleast, upd_same]
            show some (HO.lst [iv v0, iv (total t0.e)]) = _
            rw [(htm t0 List.mem_cons_self).2]
            rfl
end
end KM
namespace KM
open PySem PySem.Spec PyProof.Rows L2
theorem primes_at {K : PySem.W.Frag} {aP : Addr} {od : Option Addr} {t2 t3 t5 t7 n : Nat} {sl : Array (Option Value)}
    (l : K.lookup aP = some ⟨.type "tuple", od, .seq #[.int 2 t2, .int 3 t3, .int 5 t5, .int 7 t7] n, sl⟩) (H : Hp) : SqT K H aP (ivs [2, 3, 5, 7]) :=
  .inr ⟨_, _, _, l, rfl, rfl, (by show 4 ≤ sizeLine; decide), .cons ⟨_, rfl⟩ (.cons ⟨_, rfl⟩ (.cons ⟨_, rfl⟩ (.cons ⟨_, rfl⟩ .nil)))⟩
theorem all_mk {P : Program} {w : World} {K : PySem.W.Frag} {h : Heap} {mg : Str → Option Value} {fa aP f1 f2 f3 f4 f5 f6 f7 f8 f9 f10 f11 f12 f13 f14 f15 f16 f17 f18 f19 f20 f21 : Addr} {t2 t3 t5 t7 nP tM tW tR : Nat} (X : K.In h) (G : h.Ns mainGlobals mg) (hfa : mg "told" = some (.ref fa))
    {odP od1 an1 od2 an2 od3 an3 od4 an4 od5 an5 od6 an6 od7 an7 od8 an8 od9 an9 od10 an10 od11 an11 od12 an12 od13 an13 od14 an14 od15 an15 od16 an16 od17 an17 od18 an18 od19 an19 od20 an20 od21 an21 : Option Addr} {slP sl1 sl2 sl3 sl4 sl5 sl6 sl7 sl8 sl9 sl10 sl11 sl12 sl13 sl14 sl15 sl16 sl17 sl18 sl19 sl20 sl21 : Array (Option Value)}
    {oc1 kV1 dc1 pm1 cd1 ct1 oc2 kV2 dc2 pm2 cd2 ct2 oc3 kV3 dc3 pm3 cd3 ct3 oc4 kV4 dc4 pm4 cd4 ct4 oc5 kV5 dc5 pm5 cd5 ct5 oc6 kV6 dc6 pm6 cd6 ct6 oc7 kV7 dc7 pm7 cd7 ct7 oc8 kV8 dc8 pm8 cd8 ct8 oc9 kV9 dc9 pm9 cd9 ct9 oc10 kV10 dc10 pm10 cd10 ct10 oc11 kV11 dc11 pm11 cd11 ct11 oc12 kV12 dc12 pm12 cd12 ct12 oc13 kV13 dc13 pm13 cd13 ct13 oc14 kV14 dc14 pm14 cd14 ct14 oc15 kV15 dc15 pm15 cd15 ct15 oc16 kV16 dc16 pm16 cd16 ct16 oc17 kV17 dc17 pm17 cd17 ct17 oc18 kV18 dc18 pm18 cd18 ct18 oc19 kV19 dc19 pm19 cd19 ct19 oc20 kV20 dc20 pm20 cd20 ct20 oc21 kV21 dc21 pm21 cd21 ct21 : Value}
    (aPr : PySem.W.nsIn K mainGlobals "PRIMES" = some (some (.ref aP))) (lPr : K.lookup aP = some ⟨.type "tuple", odP, .seq #[.int 2 t2, .int 3 t3, .int 5 t5, .int 7 t7] nP, slP⟩)
    (kM : PySem.W.nsIn K mainGlobals "MOST_NUMBERS" = some (some (.int 3 tM)))
    (kW : PySem.W.nsIn K mainGlobals "WRONG_FORM" = some (some (.int (-22) tW)))
    (kR : PySem.W.nsIn K mainGlobals "NONE_TOLD" = some (some (.int (-33) tR)))
    (z1 : PySem.W.nsIn K mainGlobals "range" = some none)
    (z2 : PySem.W.nsIn K mainGlobals "sum" = some none)
    (z3 : PySem.W.nsIn K mainGlobals "sorted" = some none)
    (z4 : PySem.W.nsIn K mainGlobals "zip" = some none)
    (z5 : PySem.W.nsIn K mainGlobals "len" = some none)
    (z6 : PySem.W.nsIn K mainGlobals "enumerate" = some none)
    (z7 : PySem.W.nsIn K mainGlobals "max" = some none)
    (a1 : PySem.W.nsIn K mainGlobals "told" = some (some (.ref f1))) (l1 : K.lookup f1 = some ⟨oc1, od1, .func (PySem.W.fnOf "told" "told" (defArgs sTop) (defBody sTop) (defScope sTop) .none kV1 dc1 pm1 an1 cd1 ct1), sl1⟩) (c1 : PySem.W.codeIn K cd1 "told" = true) (k1 : PySem.W.keepIn K (.ref f1) = true)
    (a2 : PySem.W.nsIn K mainGlobals "is_space" = some (some (.ref f2))) (l2 : K.lookup f2 = some ⟨oc2, od2, .func (PySem.W.fnOf "is_space" "is_space" (defArgs sSpace) (defBody sSpace) (defScope sSpace) .none kV2 dc2 pm2 an2 cd2 ct2), sl2⟩) (c2 : PySem.W.codeIn K cd2 "is_space" = true) (k2 : PySem.W.keepIn K (.ref f2) = true)
    (a3 : PySem.W.nsIn K mainGlobals "count_points" = some (some (.ref f3))) (l3 : K.lookup f3 = some ⟨oc3, od3, .func (PySem.W.fnOf "count_points" "count_points" (defArgs sCount) (defBody sCount) (defScope sCount) .none kV3 dc3 pm3 an3 cd3 ct3), sl3⟩) (c3 : PySem.W.codeIn K cd3 "count_points" = true) (k3 : PySem.W.keepIn K (.ref f3) = true)
    (a4 : PySem.W.nsIn K mainGlobals "is_point" = some (some (.ref f4))) (l4 : K.lookup f4 = some ⟨oc4, od4, .func (PySem.W.fnOf "is_point" "is_point" (defArgs sPoint) (defBody sPoint) (defScope sPoint) .none kV4 dc4 pm4 an4 cd4 ct4), sl4⟩) (c4 : PySem.W.codeIn K cd4 "is_point" = true) (k4 : PySem.W.keepIn K (.ref f4) = true)
    (a5 : PySem.W.nsIn K mainGlobals "numbers_of_point" = some (some (.ref f5))) (l5 : K.lookup f5 = some ⟨oc5, od5, .func (PySem.W.fnOf "numbers_of_point" "numbers_of_point" (defArgs sNums) (defBody sNums) (defScope sNums) .none kV5 dc5 pm5 an5 cd5 ct5), sl5⟩) (c5 : PySem.W.codeIn K cd5 "numbers_of_point" = true) (k5 : PySem.W.keepIn K (.ref f5) = true)
    (a6 : PySem.W.nsIn K mainGlobals "is_set" = some (some (.ref f6))) (l6 : K.lookup f6 = some ⟨oc6, od6, .func (PySem.W.fnOf "is_set" "is_set" (defArgs sSet) (defBody sSet) (defScope sSet) .none kV6 dc6 pm6 an6 cd6 ct6), sl6⟩) (c6 : PySem.W.codeIn K cd6 "is_set" = true) (k6 : PySem.W.keepIn K (.ref f6) = true)
    (a7 : PySem.W.nsIn K mainGlobals "is_direction" = some (some (.ref f7))) (l7 : K.lookup f7 = some ⟨oc7, od7, .func (PySem.W.fnOf "is_direction" "is_direction" (defArgs sDir) (defBody sDir) (defScope sDir) .none kV7 dc7 pm7 an7 cd7 ct7), sl7⟩) (c7 : PySem.W.codeIn K cd7 "is_direction" = true) (k7 : PySem.W.keepIn K (.ref f7) = true)
    (a8 : PySem.W.nsIn K mainGlobals "all_directions" = some (some (.ref f8))) (l8 : K.lookup f8 = some ⟨oc8, od8, .func (PySem.W.fnOf "all_directions" "all_directions" (defArgs sAll) (defBody sAll) (defScope sAll) .none kV8 dc8 pm8 an8 cd8 ct8), sl8⟩) (c8 : PySem.W.codeIn K cd8 "all_directions" = true) (k8 : PySem.W.keepIn K (.ref f8) = true)
    (a9 : PySem.W.nsIn K mainGlobals "degree_of_term" = some (some (.ref f9))) (l9 : K.lookup f9 = some ⟨oc9, od9, .func (PySem.W.fnOf "degree_of_term" "degree_of_term" (defArgs sDeg) (defBody sDeg) (defScope sDeg) .none kV9 dc9 pm9 an9 cd9 ct9), sl9⟩) (c9 : PySem.W.codeIn K cd9 "degree_of_term" = true) (k9 : PySem.W.keepIn K (.ref f9) = true)
    (a10 : PySem.W.nsIn K mainGlobals "rank_of_term" = some (some (.ref f10))) (l10 : K.lookup f10 = some ⟨oc10, od10, .func (PySem.W.fnOf "rank_of_term" "rank_of_term" (defArgs sRank) (defBody sRank) (defScope sRank) .none kV10 dc10 pm10 an10 cd10 ct10), sl10⟩) (c10 : PySem.W.codeIn K cd10 "rank_of_term" = true) (k10 : PySem.W.keepIn K (.ref f10) = true)
    (a11 : PySem.W.nsIn K mainGlobals "highest_terms" = some (some (.ref f11))) (l11 : K.lookup f11 = some ⟨oc11, od11, .func (PySem.W.fnOf "highest_terms" "highest_terms" (defArgs sHigh) (defBody sHigh) (defScope sHigh) .none kV11 dc11 pm11 an11 cd11 ct11), sl11⟩) (c11 : PySem.W.codeIn K cd11 "highest_terms" = true) (k11 : PySem.W.keepIn K (.ref f11) = true)
    (a12 : PySem.W.nsIn K mainGlobals "value_of_term" = some (some (.ref f12))) (l12 : K.lookup f12 = some ⟨oc12, od12, .func (PySem.W.fnOf "value_of_term" "value_of_term" (defArgs sVal) (defBody sVal) (defScope sVal) .none kV12 dc12 pm12 an12 cd12 ct12), sl12⟩) (c12 : PySem.W.codeIn K cd12 "value_of_term" = true) (k12 : PySem.W.keepIn K (.ref f12) = true)
    (a13 : PySem.W.nsIn K mainGlobals "value_of_terms" = some (some (.ref f13))) (l13 : K.lookup f13 = some ⟨oc13, od13, .func (PySem.W.fnOf "value_of_terms" "value_of_terms" (defArgs sVals) (defBody sVals) (defScope sVals) .none kV13 dc13 pm13 an13 cd13 ct13), sl13⟩) (c13 : PySem.W.codeIn K cd13 "value_of_terms" = true) (k13 : PySem.W.keepIn K (.ref f13) = true)
    (a14 : PySem.W.nsIn K mainGlobals "low_terms" = some (some (.ref f14))) (l14 : K.lookup f14 = some ⟨oc14, od14, .func (PySem.W.fnOf "low_terms" "low_terms" (defArgs sLow) (defBody sLow) (defScope sLow) .none kV14 dc14 pm14 an14 cd14 ct14), sl14⟩) (c14 : PySem.W.codeIn K cd14 "low_terms" = true) (k14 : PySem.W.keepIn K (.ref f14) = true)
    (a15 : PySem.W.nsIn K mainGlobals "polynomial_of_set" = some (some (.ref f15))) (l15 : K.lookup f15 = some ⟨oc15, od15, .func (PySem.W.fnOf "polynomial_of_set" "polynomial_of_set" (defArgs sPset) (defBody sPset) (defScope sPset) .none kV15 dc15 pm15 an15 cd15 ct15), sl15⟩) (c15 : PySem.W.codeIn K cd15 "polynomial_of_set" = true) (k15 : PySem.W.keepIn K (.ref f15) = true)
    (a16 : PySem.W.nsIn K mainGlobals "row_of_term" = some (some (.ref f16))) (l16 : K.lookup f16 = some ⟨oc16, od16, .func (PySem.W.fnOf "row_of_term" "row_of_term" (defArgs sRow) (defBody sRow) (defScope sRow) .none kV16 dc16 pm16 an16 cd16 ct16), sl16⟩) (c16 : PySem.W.codeIn K cd16 "row_of_term" = true) (k16 : PySem.W.keepIn K (.ref f16) = true)
    (a17 : PySem.W.nsIn K mainGlobals "without_kept" = some (some (.ref f17))) (l17 : K.lookup f17 = some ⟨oc17, od17, .func (PySem.W.fnOf "without_kept" "without_kept" (defArgs sWo) (defBody sWo) (defScope sWo) .none kV17 dc17 pm17 an17 cd17 ct17), sl17⟩) (c17 : PySem.W.codeIn K cd17 "without_kept" = true) (k17 : PySem.W.keepIn K (.ref f17) = true)
    (a18 : PySem.W.nsIn K mainGlobals "first_place_not_0" = some (some (.ref f18))) (l18 : K.lookup f18 = some ⟨oc18, od18, .func (PySem.W.fnOf "first_place_not_0" "first_place_not_0" (defArgs sFirst) (defBody sFirst) (defScope sFirst) .none kV18 dc18 pm18 an18 cd18 ct18), sl18⟩) (c18 : PySem.W.codeIn K cd18 "first_place_not_0" = true) (k18 : PySem.W.keepIn K (.ref f18) = true)
    (a19 : PySem.W.nsIn K mainGlobals "scaled_row" = some (some (.ref f19))) (l19 : K.lookup f19 = some ⟨oc19, od19, .func (PySem.W.fnOf "scaled_row" "scaled_row" (defArgs sScal) (defBody sScal) (defScope sScal) .none kV19 dc19 pm19 an19 cd19 ct19), sl19⟩) (c19 : PySem.W.codeIn K cd19 "scaled_row" = true) (k19 : PySem.W.keepIn K (.ref f19) = true)
    (a20 : PySem.W.nsIn K mainGlobals "terms_with_factors" = some (some (.ref f20))) (l20 : K.lookup f20 = some ⟨oc20, od20, .func (PySem.W.fnOf "terms_with_factors" "terms_with_factors" (defArgs sTwf) (defBody sTwf) (defScope sTwf) .none kV20 dc20 pm20 an20 cd20 ct20), sl20⟩) (c20 : PySem.W.codeIn K cd20 "terms_with_factors" = true) (k20 : PySem.W.keepIn K (.ref f20) = true)
    (a21 : PySem.W.nsIn K mainGlobals "first_direction_not_0" = some (some (.ref f21))) (l21 : K.lookup f21 = some ⟨oc21, od21, .func (PySem.W.fnOf "first_direction_not_0" "first_direction_not_0" (defArgs sFd) (defBody sFd) (defScope sFd) .none kV21 dc21 pm21 an21 cd21 ct21), sl21⟩) (c21 : PySem.W.codeIn K cd21 "first_direction_not_0" = true) (k21 : PySem.W.keepIn K (.ref f21) = true) :
    ∃ fd : FuncData, (∀ (s : Shared) (us : List Value), us.length = (["p", "n", "s"] : List Str).length → BindsTo s fd ⟨us, []⟩ ((["p", "n", "s"] : List Str).zip us)) ∧ ∀ base : Heap, K.In base → base.Ns mainGlobals mg → FnOk P w K mg base CX0 6 fa fd ["p", "n", "s"] (spTold K) := by
  have e := hfa.symm.trans (PySem.W.mg_of X G a1)
  cases e
  have T : Txt K mg aP tM tW 0 := ⟨PySem.W.mg_of X G aPr, primes_at lPr, PySem.W.mg_of X G kM, PySem.W.mg_of X G kW, PySem.W.mg_none_of X G z1⟩
  have F1 := fun_mk (st := sTop) l1 c1 k1
  have F2 := fun_mk (st := sSpace) l2 c2 k2
  have F3 := fun_mk (st := sCount) l3 c3 k3
  have F4 := fun_mk (st := sPoint) l4 c4 k4
  have F5 := fun_mk (st := sNums) l5 c5 k5
  have F6 := fun_mk (st := sSet) l6 c6 k6
  have F7 := fun_mk (st := sDir) l7 c7 k7
  have F8 := fun_mk (st := sAll) l8 c8 k8
  have F9 := fun_mk (st := sDeg) l9 c9 k9
  have F10 := fun_mk (st := sRank) l10 c10 k10
  have F11 := fun_mk (st := sHigh) l11 c11 k11
  have F12 := fun_mk (st := sVal) l12 c12 k12
  have F13 := fun_mk (st := sVals) l13 c13 k13
  have F14 := fun_mk (st := sLow) l14 c14 k14
  have F15 := fun_mk (st := sPset) l15 c15 k15
  have F16 := fun_mk (st := sRow) l16 c16 k16
  have F17 := fun_mk (st := sWo) l17 c17 k17
  have F18 := fun_mk (st := sFirst) l18 c18 k18
  have F19 := fun_mk (st := sScal) l19 c19 k19
  have F20 := fun_mk (st := sTwf) l20 c20 k20
  have F21 := fun_mk (st := sFd) l21 c21 k21
  have b2 := F2.binds (ps := ["p", "n"]) fun _ _ _ _ _ _ us hl => match us, hl with | [_, _], _ => rfl
  have b3 := F3.binds (ps := ["p", "n"]) fun _ _ _ _ _ _ us hl => match us, hl with | [_, _], _ => rfl
  have b4 := F4.binds (ps := ["p", "n", "x"]) fun _ _ _ _ _ _ us hl => match us, hl with | [_, _, _], _ => rfl
  have b5 := F5.binds (ps := ["p", "n", "point"]) fun _ _ _ _ _ _ us hl => match us, hl with | [_, _, _], _ => rfl
  have b6 := F6.binds (ps := ["p", "n", "s"]) fun _ _ _ _ _ _ us hl => match us, hl with | [_, _, _], _ => rfl
  have b7 := F7.binds (ps := ["p", "n", "v"]) fun _ _ _ _ _ _ us hl => match us, hl with | [_, _, _], _ => rfl
  have b8 := F8.binds (ps := ["p", "n"]) fun _ _ _ _ _ _ us hl => match us, hl with | [_, _], _ => rfl
  have b9 := F9.binds (ps := ["term"]) fun _ _ _ _ _ _ us hl => match us, hl with | [_], _ => rfl
  have b10 := F10.binds (ps := ["term"]) fun _ _ _ _ _ _ us hl => match us, hl with | [_], _ => rfl
  have b11 := F11.binds (ps := ["terms"]) fun _ _ _ _ _ _ us hl => match us, hl with | [_], _ => rfl
  have b12 := F12.binds (ps := ["p", "term", "numbers"]) fun _ _ _ _ _ _ us hl => match us, hl with | [_, _, _], _ => rfl
  have b13 := F13.binds (ps := ["p", "terms", "numbers"]) fun _ _ _ _ _ _ us hl => match us, hl with | [_, _, _], _ => rfl
  have b14 := F14.binds (ps := ["p", "n"]) fun _ _ _ _ _ _ us hl => match us, hl with | [_, _], _ => rfl
  have b15 := F15.binds (ps := ["p", "n", "s"]) fun _ _ _ _ _ _ us hl => match us, hl with | [_, _, _], _ => rfl
  have b16 := F16.binds (ps := ["p", "terms", "place", "points"]) fun _ _ _ _ _ _ us hl => match us, hl with | [_, _, _, _], _ => rfl
  have b17 := F17.binds (ps := ["p", "row", "kept"]) fun _ _ _ _ _ _ us hl => match us, hl with | [_, _, _], _ => rfl
  have b18 := F18.binds (ps := ["row"]) fun _ _ _ _ _ _ us hl => match us, hl with | [_], _ => rfl
  have b19 := F19.binds (ps := ["p", "row", "pivot"]) fun _ _ _ _ _ _ us hl => match us, hl with | [_, _, _], _ => rfl
  have b20 := F20.binds (ps := ["terms", "factors"]) fun _ _ _ _ _ _ us hl => match us, hl with | [_, _], _ => rfl
  have b21 := F21.binds (ps := ["p", "n", "highest"]) fun _ _ _ _ _ _ us hl => match us, hl with | [_, _, _], _ => rfl
  exact ⟨PySem.W.fnOf "told" "told" (defArgs sTop) (defBody sTop) (defScope sTop) .none kV1 dc1 pm1 an1 cd1 ct1, fun s us hu => match us, hu with | [_, _, _], _ => .of_eq rfl, fun base _ _ =>
    ok_top F1 F2 b2 (PySem.W.mg_of X G a2) F3 b3 (PySem.W.mg_of X G a3) F4 b4 (PySem.W.mg_of X G a4) F5 b5 (PySem.W.mg_of X G a5) F6 b6 (PySem.W.mg_of X G a6) F7 b7 (PySem.W.mg_of X G a7) F8 b8 (PySem.W.mg_of X G a8) F9 b9 (PySem.W.mg_of X G a9) F10 b10 (PySem.W.mg_of X G a10) F11 b11 (PySem.W.mg_of X G a11) F12 b12 (PySem.W.mg_of X G a12) F13 b13 (PySem.W.mg_of X G a13) F14 b14 (PySem.W.mg_of X G a14) F15 b15 (PySem.W.mg_of X G a15) F16 b16 (PySem.W.mg_of X G a16) F17 b17 (PySem.W.mg_of X G a17) F18 b18 (PySem.W.mg_of X G a18) F19 b19 (PySem.W.mg_of X G a19) F20 b20 (PySem.W.mg_of X G a20) F21 b21 (PySem.W.mg_of X G a21) (PySem.W.mg_of X G kR) (PySem.W.mg_none_of X G z2) (PySem.W.mg_none_of X G z3) (PySem.W.mg_none_of X G z4) (PySem.W.mg_none_of X G z5) (PySem.W.mg_none_of X G z6) (PySem.W.mg_none_of X G z7) T⟩
end KM
open PySem PySem.W PyProof.Rows
set_option maxRecDepth 100000 in
set_option maxHeartbeats 8000000 in
theorem PySem.Challenge.cw_everywaydesk_s05_told_holds : PySem.Challenge.rw_everywaydesk_s05_told.Holds := by
  w_on; k_headS; (case hw => exact ⟨[.int 2, .int 1, .list []], by decide +kernel, by decide +kernel⟩)
  k_fillS
  refine L2.walk_specK (r := PySem.Challenge.rw_everywaydesk_s05_told) (k := 6) (CX := L2.CX0) (ps := ["p", "n", "s"]) (sp := fun K => KM.spTold K) (by decide +kernel) rfl rfl ⟨rfl, by decide, by decide⟩ (fun w h Y => PySem.W.kIn_of Y) ?F ?S (fun _ _ _ _ z => z)
  case F =>
    intro w mg fa h Y KX G hmg
    refine' KM.all_mk KX G hmg ?aPr ?lPr ?kM ?kW ?kR ?z1 ?z2 ?z3 ?z4 ?z5 ?z6 ?z7 ?a1 ?l1 ?c1 ?k1 ?a2 ?l2 ?c2 ?k2 ?a3 ?l3 ?c3 ?k3 ?a4 ?l4 ?c4 ?k4 ?a5 ?l5 ?c5 ?k5 ?a6 ?l6 ?c6 ?k6 ?a7 ?l7 ?c7 ?k7 ?a8 ?l8 ?c8 ?k8 ?a9 ?l9 ?c9 ?k9 ?a10 ?l10 ?c10 ?k10 ?a11 ?l11 ?c11 ?k11 ?a12 ?l12 ?c12 ?k12 ?a13 ?l13 ?c13 ?k13 ?a14 ?l14 ?c14 ?k14 ?a15 ?l15 ?c15 ?k15 ?a16 ?l16 ?c16 ?k16 ?a17 ?l17 ?c17 ?k17 ?a18 ?l18 ?c18 ?k18 ?a19 ?l19 ?c19 ?k19 ?a20 ?l20 ?c20 ?k20 ?a21 ?l21 ?c21 ?k21
    (case aPr => k_is)
    (case lPr => k_is)
    (case kM => k_is)
    (case kW => k_is)
    (case kR => k_is)
    (case z1 => k_is)
    (case z2 => k_is)
    (case z3 => k_is)
    (case z4 => k_is)
    (case z5 => k_is)
    (case z6 => k_is)
    (case z7 => k_is)
    (case a1 => k_is)
    (case l1 => k_is)
    (case c1 => k_is)
    (case k1 => k_is)
    (case a2 => k_is)
    (case l2 => k_is)
    (case c2 => k_is)
    (case k2 => k_is)
    (case a3 => k_is)
    (case l3 => k_is)
    (case c3 => k_is)
    (case k3 => k_is)
    (case a4 => k_is)
    (case l4 => k_is)
    (case c4 => k_is)
    (case k4 => k_is)
    (case a5 => k_is)
    (case l5 => k_is)
    (case c5 => k_is)
    (case k5 => k_is)
    (case a6 => k_is)
    (case l6 => k_is)
    (case c6 => k_is)
    (case k6 => k_is)
    (case a7 => k_is)
    (case l7 => k_is)
    (case c7 => k_is)
    (case k7 => k_is)
    (case a8 => k_is)
    (case l8 => k_is)
    (case c8 => k_is)
    (case k8 => k_is)
    (case a9 => k_is)
    (case l9 => k_is)
    (case c9 => k_is)
    (case k9 => k_is)
    (case a10 => k_is)
    (case l10 => k_is)
    (case c10 => k_is)
    (case k10 => k_is)
    (case a11 => k_is)
    (case l11 => k_is)
    (case c11 => k_is)
    (case k11 => k_is)
    (case a12 => k_is)
    (case l12 => k_is)
    (case c12 => k_is)
    (case k12 => k_is)
    (case a13 => k_is)
    (case l13 => k_is)
    (case c13 => k_is)
    (case k13 => k_is)
    (case a14 => k_is)
    (case l14 => k_is)
    (case c14 => k_is)
    (case k14 => k_is)
    (case a15 => k_is)
    (case l15 => k_is)
    (case c15 => k_is)
    (case k15 => k_is)
    (case a16 => k_is)
    (case l16 => k_is)
    (case c16 => k_is)
    (case k16 => k_is)
    (case a17 => k_is)
    (case l17 => k_is)
    (case c17 => k_is)
    (case k17 => k_is)
    (case a18 => k_is)
    (case l18 => k_is)
    (case c18 => k_is)
    (case k18 => k_is)
    (case a19 => k_is)
    (case l19 => k_is)
    (case c19 => k_is)
    (case k19 => k_is)
    (case a20 => k_is)
    (case l20 => k_is)
    (case c20 => k_is)
    (case k20 => k_is)
    (case a21 => k_is)
    (case l21 => k_is)
    (case c21 => k_is)
    (case k21 => k_is)
  case S =>
    intro K H xs a hO hwi hask hx
    obtain ⟨p, n, s, u⟩ := a
    cases hx with
    | cons h1 r1 =>
      cases r1 with
      | cons h2 r2 =>
        cases r2 with
        | cons h3 r3 =>
          cases r3
          cases h1
          cases h2
          cases h3 with
          | lst hs ha =>
            have e := L2.ints_dw s _ ha
            subst e
            have q : (Codec.inInt 0 4294967295 p && (Codec.inInt 0 4294967295 n && ((Codec.inLen 0 400 s && s.all (Codec.inInt 0 4294967295)) && true))) = true := hwi
            rw [Bool.and_eq_true, Bool.and_eq_true, Bool.and_eq_true, Bool.and_eq_true] at q
            have lo : ∀ z : Int, Codec.inInt 0 4294967295 z = true → 0 ≤ z := fun z hz => by
              unfold Codec.inInt at hz
              simp only [Bool.and_eq_true, decide_eq_true_eq] at hz
              exact hz.1
            exact ⟨p, n, _, s, rfl, lo _ q.1, lo _ q.2.1, hs, (Codec.inNat_iff.mp q.2.2.1.1).2, (fun z hz => lo _ (List.all_eq_true.mp q.2.2.1.2 z hz)), fun H' r hr => .lst (L2.SqL.of hr) (L2.dw_ints _)⟩
#print axioms PySem.Challenge.cw_everywaydesk_s05_told_holds
