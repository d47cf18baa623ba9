import PyProof.Rows.All
import Wide.All
import OpenK.AllK
import Wide.FinOn
import Open.SpecLaws
import KE.OsGo
import KE.SortKeyHeap
import HandS.ForSpec
import HandS.Comp
import HandS.Iter
import HandS.Walk
import HandS.Dict
import HandS.SortKw
import HandS.Conv
import HandS.Zip
import PySem.Challenge.RW_everywaydesk_s06_top
set_option Elab.async false
set_option linter.all false
set_option maxRecDepth 100000
set_option maxHeartbeats 2000000
namespace KM
open Kzt1 (coords pointNo space okField)

/-- reversed Horner -/
def hor (p : Nat) (l : List Nat) : Nat := l.foldr (fun c a => a * p + c) 0

def isDir (p n v : Nat) : Bool := decide (v < p ^ n) && ((coords p n v).find? (fun x => x != 0) == some 1)

theorem directions_eq (p n : Nat) : Kzt2.directions p n = (List.range (p ^ n)).filter (isDir p n) := by
  unfold Kzt2.directions space
  apply List.filter_congr
  intro v hv
  have := List.mem_range.mp hv
  simp [isDir, this]

theorem directions_contains (p n v : Nat) : (Kzt2.directions p n).contains v = isDir p n v := by
  rw [directions_eq]
  cases h : isDir p n v with
  | true =>
    have hlt : v < p ^ n := by
      simp [isDir] at h
      exact h.1
    simp [List.contains_iff_mem, hlt, h]
  | false =>
    simp [h]

theorem coords_length (p n x : Nat) : (coords p n x).length = n := by simp [coords]
theorem coords_succ (p n x : Nat) : coords p (n + 1) x = coords p n x ++ [x / p ^ n % p] := by
  simp [coords, List.range_succ]
theorem coords_get (p n x i : Nat) (h : i < n) : (coords p n x)[i]? = some (x / p ^ i % p) := by
  simp [coords, h]

theorem sum_from (p : Nat) : ∀ (l : List Nat) (k a : Nat), (∀ c ∈ l, c < p) →
    ((l.zipIdx k).map fun y => y.1 % p * p ^ y.2).foldl (· + ·) a = a + hor p l * p ^ k
  | [], k, a, _ => by simp [hor]
  | c :: l, k, a, h => by
    have hc : c < p := h c (by simp)
    rw [List.zipIdx_cons, List.map_cons, List.foldl_cons, sum_from p l (k + 1) _ (fun d hd => h d (by simp [hd]))]
    show a + c % p * p ^ k + hor p l * p ^ (k + 1) = a + (hor p l * p + c) * p ^ k
    rw [Nat.mod_eq_of_lt hc, Nat.pow_succ, Nat.add_mul, Nat.mul_assoc (hor p l) p, Nat.mul_comm p (p ^ k)]
    omega

theorem pointNo_eq (p : Nat) (l : List Nat) (h : ∀ c ∈ l, c < p) : pointNo p l = hor p l := by
  unfold pointNo
  rw [sum_from p l 0 0 h]
  simp

/-- the numbers of the t-th point of a line -/
def lineNums (p n x v t : Nat) : List Nat := (List.range n).map fun i => (x / p ^ i % p + t * (v / p ^ i % p)) % p

theorem shifted_eq (p n x v t : Nat) (hp : 0 < p) : Kzt2.shifted p n x v t = hor p (lineNums p n x v t) := by
  have e : (((coords p n x).zip (coords p n v)).map fun y => (y.1 + t * y.2) % p) = lineNums p n x v t := by
    simp [coords, lineNums, List.zip_map', List.map_map, Function.comp_def]
  unfold Kzt2.shifted
  rw [e, pointNo_eq]
  intro c hc
  simp [lineNums] at hc
  obtain ⟨i, _, rfl⟩ := hc
  exact Nat.mod_lt _ hp

theorem lineAt_eq (p n x v : Nat) (hp : 0 < p) : Kzt2.lineAt p n x v = (List.range p).map fun t => hor p (lineNums p n x v t) := by
  unfold Kzt2.lineAt
  apply List.map_congr_left
  intro t _
  exact shifted_eq p n x v t hp

theorem ok_cases {p n : Nat} (h : okField p n = true) : (p = 2 ∨ p = 3 ∨ p = 5 ∨ p = 7) ∧ 1 ≤ n ∧ n ≤ 3 := by
  simp [okField] at h
  omega
theorem ok_pow {p n : Nat} (h : okField p n = true) : p ^ n ≤ 343 := by
  obtain ⟨a, b, c⟩ := ok_cases h
  have : n = 1 ∨ n = 2 ∨ n = 3 := by omega
  rcases a with rfl | rfl | rfl | rfl <;> rcases this with rfl | rfl | rfl <;> decide
/-- the elements of a list, walked from its end -/
theorem hor_cons (p c : Nat) (l : List Nat) : hor p (c :: l) = hor p l * p + c := rfl
theorem hor_drop (p : Nat) (l : List Nat) (i c : Nat) (h : l[l.length - 1 - i]? = some c) (hi : i < l.length) :
    hor p (l.drop (l.length - (i + 1))) = hor p (l.drop (l.length - i)) * p + c := by
  have e : l.length - (i + 1) = l.length - 1 - i := by omega
  have hlt : l.length - 1 - i < l.length := by omega
  rw [e, List.drop_eq_getElem_cons hlt, hor_cons]
  have e2 : l.length - 1 - i + 1 = l.length - i := by omega
  rw [e2]
  congr 1
  rw [List.getElem?_eq_getElem hlt] at h
  exact Option.some.inj h

theorem find_none_take {l : List Nat} {i : Nat} {c : Nat} (h : (l.take i).find? (fun x => x != 0) = none) (hc : l[i]? = some c) (c0 : c = 0) :
    (l.take (i + 1)).find? (fun x => x != 0) = none := by
  rw [List.take_add_one, hc, List.find?_append, h]
  simp [c0]
theorem find_some_take {l : List Nat} {i : Nat} {c : Nat} (h : (l.take i).find? (fun x => x != 0) = none) (hc : l[i]? = some c) (c0 : c ≠ 0) :
    l.find? (fun x => x != 0) = some c := by
  have hlt : i < l.length := by
    rcases Nat.lt_or_ge i l.length with q | q
    · exact q
    · rw [List.getElem?_eq_none q] at hc
      cases hc
  have e : l = l.take i ++ l.drop i := (List.take_append_drop i l).symm
  have ed : l.drop i = c :: l.drop (i + 1) := by
    rw [List.drop_eq_getElem_cons hlt]
    rw [List.getElem?_eq_getElem hlt] at hc
    rw [Option.some.inj hc]
  rw [e, List.find?_append, h, ed]
  simp [c0]
end KM
namespace KM
open Kzt1 (coords pointNo space okField)

theorem coords_cons (p n x : Nat) : coords p (n + 1) x = x % p :: coords p n (x / p) := by
  unfold coords
  rw [List.range_succ_eq_map, List.map_cons, List.map_map]
  congr 1
  · simp
  · apply List.map_congr_left
    intro i _
    show x / p ^ (i + 1) % p = x / p / p ^ i % p
    rw [Nat.pow_succ, Nat.mul_comm, Nat.div_div_eq_div_mul]
theorem hor_lt (p : Nat) : ∀ l : List Nat, (∀ c ∈ l, c < p) → hor p l < p ^ l.length
  | [], _ => by simp [hor]
  | c :: l, h => by
    have ih := hor_lt p l (fun d hd => h d (by simp [hd]))
    have hc : c < p := h c (by simp)
    rw [hor_cons, List.length_cons, Nat.pow_succ]
    calc hor p l * p + c < hor p l * p + p := by omega
      _ = (hor p l + 1) * p := by rw [Nat.add_mul, Nat.one_mul]
      _ ≤ p ^ l.length * p := Nat.mul_le_mul_right _ ih
theorem coords_hor (p : Nat) : ∀ l : List Nat, (∀ c ∈ l, c < p) → coords p l.length (hor p l) = l
  | [], _ => rfl
  | c :: l, h => by
    have hc : c < p := h c (by simp)
    have hp : 0 < p := by omega
    rw [List.length_cons, coords_cons, hor_cons]
    have e1 : (hor p l * p + c) % p = c := by rw [Nat.add_comm, Nat.add_mul_mod_self_right, Nat.mod_eq_of_lt hc]
    have e2 : (hor p l * p + c) / p = hor p l := by rw [Nat.add_comm, Nat.add_mul_div_right _ _ hp, Nat.div_eq_of_lt hc, Nat.zero_add]
    rw [e1, e2, coords_hor p l (fun d hd => h d (by simp [hd]))]
theorem hor_coords (p : Nat) : ∀ n x : Nat, x < p ^ n → hor p (coords p n x) = x
  | 0, x, h => by
    have : x = 0 := by simpa using h
    subst this
    rfl
  | n + 1, x, h => by
    rw [coords_cons, hor_cons, hor_coords p n (x / p)]
    · rw [Nat.mul_comm]
      exact Nat.div_add_mod x p
    · rw [Nat.pow_succ] at h
      exact Nat.div_lt_of_lt_mul (by rw [Nat.mul_comm]; exact h)

theorem lineNums_lt {p n x v t : Nat} (hp : 0 < p) : ∀ c ∈ lineNums p n x v t, c < p := by
  intro c hc
  simp [lineNums] at hc
  obtain ⟨i, _, rfl⟩ := hc
  exact Nat.mod_lt _ hp
theorem lineNums_length (p n x v t : Nat) : (lineNums p n x v t).length = n := by simp [lineNums]
theorem shifted_lt {p n x v t : Nat} (hp : 0 < p) : Kzt2.shifted p n x v t < p ^ n := by
  rw [shifted_eq p n x v t hp]
  have := hor_lt p (lineNums p n x v t) (lineNums_lt hp)
  rwa [lineNums_length] at this
theorem coords_shifted {p n x v t : Nat} (hp : 0 < p) : coords p n (Kzt2.shifted p n x v t) = lineNums p n x v t := by
  have := coords_hor p (lineNums p n x v t) (lineNums_lt hp)
  rwa [lineNums_length, ← shifted_eq p n x v t hp] at this
theorem digit_shifted {p n x v t i : Nat} (hp : 0 < p) (hi : i < n) : Kzt2.shifted p n x v t / p ^ i % p = (x / p ^ i % p + t * (v / p ^ i % p)) % p := by
  have e := congrArg (fun l : List Nat => l[i]?) (coords_shifted (p := p) (n := n) (x := x) (v := v) (t := t) hp)
  simp only [coords_get p n _ i hi] at e
  rw [show (lineNums p n x v t)[i]? = some ((x / p ^ i % p + t * (v / p ^ i % p)) % p) by
    unfold lineNums
    rw [List.getElem?_map, List.getElem?_range hi]
    rfl] at e
  exact Option.some.inj e
theorem shifted_shifted {p n x v t u : Nat} (hp : 0 < p) : Kzt2.shifted p n (Kzt2.shifted p n x v t) v u = Kzt2.shifted p n x v ((t + u) % p) := by
  rw [shifted_eq p n (Kzt2.shifted p n x v t) v u hp, shifted_eq p n x v ((t + u) % p) hp]
  congr 1
  unfold lineNums
  apply List.map_congr_left
  intro i hi
  have hi := List.mem_range.mp hi
  rw [digit_shifted hp hi]
  generalize x / p ^ i % p = a
  generalize v / p ^ i % p = b
  rw [Nat.mod_add_mod, Nat.add_mod a ((t + u) % p * b) p, Nat.mul_mod ((t + u) % p) b p, Nat.mod_mod, ← Nat.mul_mod, ← Nat.add_mod, Nat.add_mul, Nat.add_assoc]
theorem shifted_zero {p n x v : Nat} (hp : 0 < p) (hx : x < p ^ n) : Kzt2.shifted p n x v 0 = x := by
  rw [shifted_eq p n x v 0 hp]
  have : lineNums p n x v 0 = coords p n x := by
    unfold lineNums coords
    apply List.map_congr_left
    intro i _
    rw [Nat.zero_mul, Nat.add_zero, Nat.mod_mod]
  rw [this, hor_coords p n x hx]
theorem mem_lineAt {p n x v y : Nat} : y ∈ Kzt2.lineAt p n x v ↔ ∃ t < p, Kzt2.shifted p n x v t = y := by
  unfold Kzt2.lineAt
  simp
/-- some line in the direction v lies in s -/
def onLine (p n : Nat) (s : List Nat) (v x : Nat) : Bool := (Kzt2.lineAt p n x v).all fun y => s.contains y
theorem onLine_iff {p n : Nat} {s : List Nat} {v x : Nat} : onLine p n s v x = true ↔ ∀ t < p, Kzt2.shifted p n x v t ∈ s := by
  unfold onLine
  rw [List.all_eq_true]
  constructor
  · intro h t ht
    simpa using h _ (mem_lineAt.mpr ⟨t, ht, rfl⟩)
  · intro h y hy
    obtain ⟨t, ht, rfl⟩ := mem_lineAt.mp hy
    simpa using h t ht
/-- a least value of a function below p -/
theorem least_at (f : Nat → Nat) : ∀ p : Nat, 0 < p → ∃ t < p, ∀ u < p, f t ≤ f u
  | 1, _ => ⟨0, by omega, fun u hu => by have : u = 0 := by omega
                                         subst this
                                         exact Nat.le_refl _⟩
  | p + 2, _ => by
    obtain ⟨t, ht, h⟩ := least_at f (p + 1) (by omega)
    by_cases c : f t ≤ f (p + 1)
    · refine ⟨t, by omega, fun u hu => ?_⟩
      by_cases e : u = p + 1
      · subst e
        exact c
      · exact h u (by omega)
    · refine ⟨p + 1, by omega, fun u hu => ?_⟩
      by_cases e : u = p + 1
      · subst e
        exact Nat.le_refl _
      · have := h u (by omega)
        omega
theorem has_iff {p n : Nat} {s : List Nat} {v : Nat} (hp : 0 < p) : Kzt2.has p n s v = true ↔ ∃ x < p ^ n, onLine p n s v x = true := by
  unfold Kzt2.has Kzt2.linesIn space
  rw [List.any_eq_true]
  constructor
  · rintro ⟨x, hx, h⟩
    have := (List.mem_filter.mp hx).1
    exact ⟨x, List.mem_range.mp this, h⟩
  · rintro ⟨x, hx, h⟩
    obtain ⟨t, ht, hmin⟩ := least_at (Kzt2.shifted p n x v) p hp
    refine ⟨Kzt2.shifted p n x v t, List.mem_filter.mpr ⟨List.mem_range.mpr (shifted_lt hp), ?_⟩, ?_⟩
    · rw [List.all_eq_true]
      intro y hy
      obtain ⟨u, hu, rfl⟩ := mem_lineAt.mp hy
      rw [shifted_shifted hp]
      exact decide_eq_true (hmin _ (Nat.mod_lt _ hp))
    · show onLine p n s v _ = true
      rw [onLine_iff]
      intro u hu
      rw [shifted_shifted hp]
      exact onLine_iff.mp h _ (Nat.mod_lt _ hp)
/-- by any start -/
theorem has_range {p n : Nat} {s : List Nat} {v : Nat} (hp : 0 < p) : Kzt2.has p n s v = (List.range (p ^ n)).any (onLine p n s v) := by
  rw [Bool.eq_iff_iff, has_iff hp, List.any_eq_true]
  constructor
  · rintro ⟨x, hx, h⟩
    exact ⟨x, List.mem_range.mpr hx, h⟩
  · rintro ⟨x, hx, h⟩
    exact ⟨x, List.mem_range.mp hx, h⟩
/-- by the set's own points -/
theorem has_set {p n : Nat} {s : List Nat} {v : Nat} (hp : 0 < p) (hs : ∀ y ∈ s, y < p ^ n) : Kzt2.has p n s v = s.any (onLine p n s v) := by
  rw [Bool.eq_iff_iff, has_iff hp, List.any_eq_true]
  constructor
  · rintro ⟨x, hx, h⟩
    refine ⟨x, ?_, h⟩
    have := onLine_iff.mp h 0 hp
    rwa [shifted_zero hp hx] at this
  · rintro ⟨x, hx, h⟩
    exact ⟨x, hs x hx, h⟩
end KM
namespace KM
open Kzt1 (rising okSet okField)
/-- a row that goes on rising from m, below c -/
def okFrom (c : Nat) : Int → List Nat → Bool
  | _, [] => true
  | m, x :: l => decide (m < (x : Int)) && decide ((x : Int) < (c : Int)) && okFrom c (x : Int) l
theorem okFrom_nat (c : Nat) : ∀ (l : List Nat) (a : Nat), okFrom c (a : Int) l = (rising (a :: l) && l.all fun x => decide (x < c))
  | [], a => by simp [okFrom, rising]
  | x :: l, a => by
    have ih := okFrom_nat c l x
    unfold okFrom
    rw [ih]
    have e1 : decide ((a : Int) < (x : Int)) = decide (a < x) := decide_eq_decide.mpr (by omega)
    have e2 : decide ((x : Int) < (c : Int)) = decide (x < c) := decide_eq_decide.mpr (by omega)
    rw [e1, e2]
    show _ = ((decide (a < x) && rising (x :: l)) && (decide (x < c) && l.all fun x => decide (x < c)))
    cases decide (a < x) <;> cases decide (x < c) <;> cases rising (x :: l) <;> rfl
theorem okFrom_set (p n : Nat) (s : List Nat) : okFrom (p ^ n) (-1) s = okSet p n s := by
  cases s with
  | nil => rfl
  | cons x l =>
    unfold okFrom okSet
    rw [okFrom_nat]
    have e1 : decide ((-1 : Int) < (x : Int)) = true := decide_eq_true (by omega)
    have e2 : decide ((x : Int) < ((p ^ n : Nat) : Int)) = decide (x < p ^ n) := decide_eq_decide.mpr (by omega)
    rw [e1, e2, List.all_cons]
    cases decide (x < p ^ n) <;> cases rising (x :: l) <;> rfl
theorem rising_pair : ∀ l : List Nat, rising l = true → l.Pairwise (· < ·)
  | [], _ => List.Pairwise.nil
  | [a], _ => List.pairwise_singleton _ _
  | a :: b :: l, h => by
    have h' : (decide (a < b) && rising (b :: l)) = true := h
    rw [Bool.and_eq_true] at h'
    have ih := rising_pair (b :: l) h'.2
    have hab := of_decide_eq_true h'.1
    refine List.pairwise_cons.mpr ⟨fun c hc => ?_, ih⟩
    rcases List.mem_cons.mp hc with rfl | hc
    · exact hab
    · have := (List.pairwise_cons.mp ih).1 c hc
      omega
theorem okSet_nodup {p n : Nat} {s : List Nat} (h : okSet p n s = true) : s.Nodup := by
  unfold okSet at h
  rw [Bool.and_eq_true] at h
  exact (rising_pair s h.1).imp (fun hab => Nat.ne_of_lt hab)
theorem okSet_lt {p n : Nat} {s : List Nat} (h : okSet p n s = true) : ∀ y ∈ s, y < p ^ n := by
  unfold okSet at h
  rw [Bool.and_eq_true, List.all_eq_true] at h
  exact fun y hy => of_decide_eq_true (h.2 y hy)
theorem nat_list (s : List Int) (h : ∀ z ∈ s, 0 ≤ z) : ∃ l : List Nat, s = l.map (fun (y : Nat) => (y : Int)) := by
  refine ⟨s.map Int.toNat, ?_⟩
  rw [List.map_map]
  conv => lhs; rw [← List.map_id s]
  apply List.map_congr_left
  intro z hz
  have := h z hz
  show z = ((z.toNat : Nat) : Int)
  omega
theorem natsOf_map (l : List Nat) : (l.map (fun (y : Nat) => (y : Int))).map Int.toNat = l := by
  rw [List.map_map]
  conv => rhs; rw [← List.map_id l]
  apply List.map_congr_left
  intro y _
  rfl
theorem any_take_succ {α : Type} (f : α → Bool) (l : List α) (i : Nat) (x : α) (h : l[i]? = some x) : (l.take (i + 1)).any f = ((l.take i).any f || f x) := by
  rw [List.take_add_one, h, List.any_append]
  simp
end KM
namespace KM
open Kzt1 (Term total lexBefore before put norm okPoly degree cut readPoly)

/-! ### the order of terms -/
theorem lex_irrefl : ∀ l : List Nat, lexBefore l l = false
  | [] => rfl
  | a :: l => by
    unfold lexBefore
    rw [lex_irrefl l]
    simp
theorem lex_trans : ∀ a b c : List Nat, lexBefore a b = true → lexBefore b c = true → lexBefore a c = true
  | [], _, _, h, _ => by unfold lexBefore at h; cases h
  | _ :: _, [], _, h, _ => by unfold lexBefore at h; cases h
  | _ :: _, _ :: _, [], _, h => by unfold lexBefore at h; cases h
  | x :: a, y :: b, z :: c, h1, h2 => by
    unfold lexBefore at h1 h2 ⊢
    simp only [Bool.or_eq_true, decide_eq_true_eq, Bool.and_eq_true, beq_iff_eq] at h1 h2 ⊢
    rcases h1 with h1 | ⟨e1, h1⟩
    · rcases h2 with h2 | ⟨e2, h2⟩
      · exact .inl (by omega)
      · exact .inl (by omega)
    · rcases h2 with h2 | ⟨e2, h2⟩
      · exact .inl (by omega)
      · exact .inr ⟨by omega, lex_trans a b c h1 h2⟩
theorem lex_tri : ∀ a b : List Nat, a.length = b.length → a ≠ b → lexBefore a b = false → lexBefore b a = true
  | [], [], _, h, _ => absurd rfl h
  | [], _ :: _, h, _, _ => by simp at h
  | _ :: _, [], h, _, _ => by simp at h
  | x :: a, y :: b, hl, hne, hf => by
    unfold lexBefore at hf ⊢
    simp only [Bool.or_eq_false_iff, decide_eq_false_iff_not, Bool.and_eq_false_imp, beq_iff_eq] at hf
    simp only [Bool.or_eq_true, decide_eq_true_eq, Bool.and_eq_true, beq_iff_eq]
    by_cases e : y = x
    · subst e
      exact .inr ⟨rfl, lex_tri a b (by simpa using hl) (fun z => hne (by rw [z])) (hf.2 rfl)⟩
    · exact .inl (by omega)
theorem before_irrefl (e : List Nat) : before e e = false := by
  unfold before
  rw [lex_irrefl]
  simp
theorem before_trans {a b c : List Nat} (h1 : before a b = true) (h2 : before b c = true) : before a c = true := by
  unfold before at h1 h2 ⊢
  simp only [Bool.or_eq_true, decide_eq_true_eq, Bool.and_eq_true, beq_iff_eq] at h1 h2 ⊢
  rcases h1 with h1 | ⟨e1, h1⟩
  · rcases h2 with h2 | ⟨e2, h2⟩
    · exact .inl (by omega)
    · exact .inl (by omega)
  · rcases h2 with h2 | ⟨e2, h2⟩
    · exact .inl (by omega)
    · exact .inr ⟨by omega, lex_trans a b c h1 h2⟩
theorem before_asymm {a b : List Nat} (h : before a b = true) : before b a = false := by
  cases e : before b a with
  | false => rfl
  | true =>
    have := before_trans h e
    rw [before_irrefl] at this
    cases this
theorem before_tri {a b : List Nat} (hl : a.length = b.length) (hne : a ≠ b) (h : before a b = false) : before b a = true := by
  unfold before at h ⊢
  simp only [Bool.or_eq_false_iff, decide_eq_false_iff_not, Bool.and_eq_false_imp, beq_iff_eq] at h
  simp only [Bool.or_eq_true, decide_eq_true_eq, Bool.and_eq_true, beq_iff_eq]
  by_cases e : total b = total a
  · exact .inr ⟨e, lex_tri a b hl hne (h.2 e.symm)⟩
  · exact .inl (by omega)

/-! ### a row of terms is its own norm where it rises -/
def Rising (f : List Term) : Prop := f.Pairwise fun t u => before t.e u.e = true
theorem put_last (p : Nat) (t : Term) (hc : t.c % p ≠ 0) : ∀ f : List Term, (∀ u ∈ f, before u.e t.e = true) → put p t f = f ++ [⟨t.c % p, t.e⟩]
  | [], _ => by
    unfold put
    rw [if_neg hc]
    rfl
  | u :: f, h => by
    have hu := h u (by simp)
    have hne : t.e ≠ u.e := fun e => by
      rw [e, before_irrefl] at hu
      cases hu
    unfold put
    rw [if_neg hne, before_asymm hu, if_neg Bool.false_ne_true, put_last p t hc f (fun w hw => h w (by simp [hw]))]
    rfl
theorem norm_append (p : Nat) (f : List Term) (t : Term) : norm p (f ++ [t]) = put p t (norm p f) := by
  unfold norm
  rw [List.foldl_append]
  rfl
/-- a rising row, with no factor of 0: its factors are taken modulo p -/
theorem norm_rising_mod (p : Nat) (f : List Term) (hr : Rising f) (hc : ∀ t ∈ f, t.c % p ≠ 0) : norm p f = f.map fun t => ⟨t.c % p, t.e⟩ := by
  have key : ∀ k ≤ f.length, norm p (f.take k) = (f.take k).map fun t => ⟨t.c % p, t.e⟩ := by
    intro k
    induction k with
    | zero =>
      intro _
      rfl
    | succ k ih =>
      intro hk
      have hk' : k < f.length := by omega
      rw [List.take_succ_eq_append_getElem hk', norm_append, ih (by omega), put_last p f[k] (hc _ (List.getElem_mem hk')), List.map_append]
      · rfl
      · intro u hu
        rw [List.mem_map] at hu
        obtain ⟨w, hw, rfl⟩ := hu
        obtain ⟨i, hi, rfl⟩ := List.mem_iff_getElem.mp hw
        rw [List.length_take] at hi
        rw [List.getElem_take]
        exact List.pairwise_iff_getElem.mp hr i k (by omega) hk' (by omega)
  have := key f.length (Nat.le_refl _)
  rwa [List.take_length] at this
theorem norm_rising (p : Nat) (f : List Term) (hr : Rising f) (hc : ∀ t ∈ f, 1 ≤ t.c ∧ t.c < p) : norm p f = f := by
  rw [norm_rising_mod p f hr]
  · conv => rhs; rw [← List.map_id f]
    apply List.map_congr_left
    intro t ht
    have := hc t ht
    rw [Nat.mod_eq_of_lt this.2]
    rfl
  · intro t ht
    have := hc t ht
    rw [Nat.mod_eq_of_lt this.2]
    omega
theorem put_mem (p : Nat) (t : Term) : ∀ (f : List Term) (w : Term), w ∈ put p t f → w.e = t.e ∨ w ∈ f
  | [], w, h => by
    unfold put at h
    split at h
    · cases h
    · left
      rw [List.mem_singleton.mp h]
  | u :: f, w, h => by
    unfold put at h
    split at h
    · next e =>
      split at h
      · exact .inr (by simp [h])
      · rcases List.mem_cons.mp h with h | h
        · left
          rw [h, e]
        · exact .inr (by simp [h])
    · split at h
      · split at h
        · exact .inr h
        · rcases List.mem_cons.mp h with h | h
          · left
            rw [h]
          · exact .inr h
      · rcases List.mem_cons.mp h with h | h
        · exact .inr (by simp [h])
        · rcases put_mem p t f w h with h | h
          · exact .inl h
          · exact .inr (by simp [h])
theorem put_rising (p n : Nat) (t : Term) (ht : t.e.length = n) : ∀ f : List Term, (∀ u ∈ f, u.e.length = n) → Rising f → Rising (put p t f)
  | [], _, _ => by
    unfold put
    split
    · exact List.Pairwise.nil
    · exact List.pairwise_singleton _ _
  | u :: f, hl, hr => by
    have hu := List.pairwise_cons.mp hr
    unfold put
    split
    · next e =>
      split
      · exact hu.2
      · exact List.pairwise_cons.mpr ⟨hu.1, hu.2⟩
    · next hne =>
      split
      · next hb =>
        split
        · exact hr
        · refine List.pairwise_cons.mpr ⟨fun w hw => ?_, hr⟩
          rcases List.mem_cons.mp hw with rfl | hw
          · exact hb
          · exact before_trans hb (hu.1 w hw)
      · next hb =>
        refine List.pairwise_cons.mpr ⟨fun w hw => ?_, put_rising p n t ht f (fun w hw => hl w (by simp [hw])) hu.2⟩
        rcases put_mem p t f w hw with h | h
        · rw [h]
          exact before_tri (by rw [ht, hl u (by simp)]) hne (Bool.eq_false_iff.mpr hb)
        · exact hu.1 w h
theorem norm_is_rising (p n : Nat) (f : List Term) (hl : ∀ u ∈ f, u.e.length = n) : Rising (norm p f) ∧ ∀ u ∈ norm p f, u.e.length = n := by
  have key : ∀ (g : List Term) (acc : List Term), (∀ u ∈ g, u.e.length = n) → (Rising acc ∧ ∀ u ∈ acc, u.e.length = n) → (Rising (g.foldl (fun a t => put p t a) acc) ∧ ∀ u ∈ g.foldl (fun a t => put p t a) acc, u.e.length = n) := by
    intro g
    induction g with
    | nil =>
      intro acc _ h
      exact h
    | cons t g ih =>
      intro acc hg h
      refine ih (put p t acc) (fun u hu => hg u (by simp [hu])) ⟨put_rising p n t (hg t (by simp)) acc h.2 h.1, fun u hu => ?_⟩
      rcases put_mem p t acc u hu with e | e
      · rw [e]
        exact hg t (by simp)
      · exact h.2 u e
  exact key f [] hl ⟨List.Pairwise.nil, by simp⟩
/-- each term as the document asks -/
def okTerm (p n : Nat) (t : Term) : Bool := decide (1 ≤ t.c) && decide (t.c < p) && t.e.length == n && t.e.all fun x => decide (x ≤ 12)
/-- each one behind the one ahead of it -/
def upward : List Term → Bool
  | t :: u :: f => before t.e u.e && upward (u :: f)
  | _ => true
theorem upward_iff : ∀ f : List Term, upward f = true ↔ Rising f
  | [] => by simp [upward, Rising]
  | [t] => by simp [upward, Rising]
  | t :: u :: f => by
    unfold upward
    rw [Bool.and_eq_true, upward_iff (u :: f)]
    unfold Rising
    constructor
    · rintro ⟨h1, h2⟩
      refine List.pairwise_cons.mpr ⟨fun w hw => ?_, h2⟩
      rcases List.mem_cons.mp hw with rfl | hw
      · exact h1
      · exact before_trans h1 ((List.pairwise_cons.mp h2).1 w hw)
    · intro h
      have := List.pairwise_cons.mp h
      exact ⟨this.1 u (by simp), this.2⟩
theorem okPoly_eq (p n : Nat) (f : List Term) : okPoly p n f = (f.all (okTerm p n) && upward f) := by
  unfold okPoly
  have e : (f.all fun t => decide (1 ≤ t.c) && decide (t.c < p) && t.e.length == n && t.e.all fun x => decide (x ≤ 12)) = f.all (okTerm p n) := rfl
  rw [e]
  cases h : f.all (okTerm p n) with
  | false => rfl
  | true =>
    rw [Bool.true_and, Bool.true_and]
    have ht : ∀ t ∈ f, (1 ≤ t.c ∧ t.c < p) ∧ t.e.length = n := fun t ht => by
      have := List.all_eq_true.mp h t ht
      unfold okTerm at this
      simp only [Bool.and_eq_true, decide_eq_true_eq, beq_iff_eq] at this
      exact ⟨this.1.1, this.1.2⟩
    rw [Bool.eq_iff_iff, upward_iff, beq_iff_eq]
    constructor
    · intro e
      have := (norm_is_rising p n f fun u hu => (ht u hu).2).1
      rwa [e] at this
    · intro hr
      exact norm_rising p f hr fun t h => (ht t h).1
/-! ### a row cut into terms -/
def cuts (k : Nat) : Nat → List Nat → List Term
  | 0, _ => []
  | i + 1, l => ⟨l.headD 0, (l.drop 1).take k⟩ :: cuts k i (l.drop (k + 1))
theorem cut_eq (k : Nat) : ∀ (m fuel : Nat) (l : List Nat), l.length = m * (k + 1) → m ≤ fuel → cut k fuel l = some (cuts k m l)
  | 0, fuel, l, h, _ => by
    have : l = [] := List.length_eq_zero_iff.mp (by simpa using h)
    subst this
    cases fuel <;> rfl
  | m + 1, 0, l, _, h => by omega
  | m + 1, fuel + 1, [], h, _ => by
    rw [Nat.succ_mul] at h
    simp at h
  | m + 1, fuel + 1, c :: l, h, hf => by
    rw [Nat.succ_mul, List.length_cons] at h
    have hl : l.length = m * (k + 1) + k := by omega
    unfold cut
    rw [if_neg (by omega), cut_eq k m fuel (l.drop k) (by rw [List.length_drop]; omega) (by omega)]
    rfl
theorem cut_none (k : Nat) : ∀ (fuel : Nat) (l : List Nat), l.length % (k + 1) ≠ 0 → l.length ≤ fuel → cut k fuel l = none
  | _, [], h, _ => by simp at h
  | 0, _ :: _, _, h => by simp at h
  | fuel + 1, c :: l, h, hf => by
    rw [List.length_cons] at h hf
    unfold cut
    by_cases hk : l.length < k
    · rw [if_pos hk]
    · rw [if_neg hk, cut_none k fuel (l.drop k) _ (by rw [List.length_drop]; omega)]
      · rfl
      · rw [List.length_drop]
        intro e
        apply h
        have : l.length + 1 = (l.length - k) + (k + 1) := by omega
        rw [this, Nat.add_mod_right]
        exact e
/-- what readPoly says -/
theorem readPoly_eq (p n : Nat) (l : List Nat) : readPoly p n l = if l.length % (n + 1) = 0 ∧ ((cuts n (l.length / (n + 1)) l).all (okTerm p n) && upward (cuts n (l.length / (n + 1)) l)) = true then some (cuts n (l.length / (n + 1)) l) else none := by
  unfold readPoly
  by_cases h : l.length % (n + 1) = 0
  · have hm : l.length = l.length / (n + 1) * (n + 1) := by
      have := Nat.div_add_mod l.length (n + 1)
      rw [h, Nat.add_zero, Nat.mul_comm] at this
      exact this.symm
    rw [cut_eq n (l.length / (n + 1)) l.length l hm (Nat.div_le_self _ _)]
    dsimp only
    rw [okPoly_eq]
    by_cases c : ((cuts n (l.length / (n + 1)) l).all (okTerm p n) && upward (cuts n (l.length / (n + 1)) l)) = true
    · rw [if_pos c, if_pos ⟨h, c⟩]
    · rw [if_neg c, if_neg fun z => c z.2]
  · rw [cut_none n l.length l h (Nat.le_refl _), if_neg fun z => h z.1]
theorem cuts_length (k : Nat) : ∀ (m : Nat) (l : List Nat), (cuts k m l).length = m
  | 0, _ => rfl
  | m + 1, l => by
    unfold cuts
    rw [List.length_cons, cuts_length k m]
theorem cuts_get (k : Nat) : ∀ (m i : Nat) (l : List Nat), i < m → (cuts k m l)[i]? = some ⟨(l.drop (i * (k + 1))).headD 0, (l.drop (i * (k + 1) + 1)).take k⟩
  | 0, i, l, h => by omega
  | m + 1, 0, l, h => by
    unfold cuts
    simp
  | m + 1, i + 1, l, h => by
    unfold cuts
    rw [List.getElem?_cons_succ, cuts_get k m i _ (by omega), List.drop_drop, List.drop_drop, Nat.succ_mul, Nat.add_comm (k + 1) (i * (k + 1)), ← Nat.add_assoc (k + 1), Nat.add_comm (k + 1) (i * (k + 1))]
end KM
namespace KM
open Kzt1 (inv freed simple)

/-! ### sums below a bound -/
def sumTo (f : Nat → Nat) : Nat → Nat
  | 0 => 0
  | w + 1 => sumTo f w + f w
theorem sumTo_congr {f g : Nat → Nat} : ∀ {w : Nat}, (∀ m < w, f m = g m) → sumTo f w = sumTo g w
  | 0, _ => rfl
  | w + 1, h => by
    show sumTo f w + f w = sumTo g w + g w
    rw [sumTo_congr (fun m hm => h m (by omega)), h w (by omega)]
theorem sumTo_mod {p : Nat} {f g : Nat → Nat} : ∀ {w : Nat}, (∀ m < w, f m % p = g m % p) → sumTo f w % p = sumTo g w % p
  | 0, _ => rfl
  | w + 1, h => by
    show (sumTo f w + f w) % p = (sumTo g w + g w) % p
    rw [Nat.add_mod, sumTo_mod (fun m hm => h m (by omega)), h w (by omega), ← Nat.add_mod]
theorem sumTo_add (f g : Nat → Nat) : ∀ w : Nat, sumTo (fun m => f m + g m) w = sumTo f w + sumTo g w
  | 0 => rfl
  | w + 1 => by
    show sumTo (fun m => f m + g m) w + (f w + g w) = (sumTo f w + f w) + (sumTo g w + g w)
    rw [sumTo_add f g w]
    omega
theorem sumTo_mul (a : Nat) (f : Nat → Nat) : ∀ w : Nat, sumTo (fun m => a * f m) w = a * sumTo f w
  | 0 => rfl
  | w + 1 => by
    show sumTo (fun m => a * f m) w + a * f w = a * (sumTo f w + f w)
    rw [sumTo_mul a f w, Nat.mul_add]
theorem sumTo_zero {f : Nat → Nat} : ∀ {w : Nat}, (∀ m < w, f m = 0) → sumTo f w = 0
  | 0, _ => rfl
  | w + 1, h => by
    show sumTo f w + f w = 0
    rw [sumTo_zero (fun m hm => h m (by omega)), h w (by omega)]
theorem sumTo_one {f : Nat → Nat} {i : Nat} : ∀ {w : Nat}, (∀ m < w, m ≠ i → f m = 0) → i < w → sumTo f w = f i
  | 0, _, h => by omega
  | w + 1, h, hi => by
    show sumTo f w + f w = f i
    by_cases e : i = w
    · subst e
      rw [sumTo_zero (fun m hm => h m (by omega) (by omega)), Nat.zero_add]
    · rw [sumTo_one (fun m hm hne => h m (by omega) hne) (by omega), h w (by omega) (fun z => e z.symm), Nat.add_zero]
theorem sumTo_two {f : Nat → Nat} {i j : Nat} : ∀ {w : Nat}, (∀ m < w, m ≠ i → m ≠ j → f m = 0) → i < j → j < w → sumTo f w = f i + f j
  | 0, _, _, h => by omega
  | w + 1, h, hij, hj => by
    show sumTo f w + f w = f i + f j
    by_cases e : j = w
    · subst e
      rw [sumTo_one (i := i) (fun m hm hne => h m (by omega) hne (by omega)) hij]
    · rw [sumTo_two (i := i) (j := j) (fun m hm h1 h2 => h m (by omega) h1 h2) hij (by omega), h w (by omega) (by omega) (fun z => e z.symm), Nat.add_zero]
/-- what is 0 from k on -/
theorem sumTo_cut {f : Nat → Nat} {k : Nat} : ∀ {w : Nat}, (∀ m < w, k ≤ m → f m = 0) → k ≤ w → sumTo f w = sumTo f k
  | 0, _, h => by
    have : k = 0 := by omega
    subst this
    rfl
  | w + 1, h, hk => by
    by_cases e : k = w + 1
    · rw [e]
    · show sumTo f w + f w = sumTo f k
      rw [sumTo_cut (fun m hm hkm => h m (by omega) hkm) (by omega), h w (by omega) (by omega), Nat.add_zero]

/-! ### rows, and what they make nought -/
def dot (w : Nat) (r : List Nat) (c : Nat → Nat) : Nat := sumTo (fun m => r.getD m 0 * c m) w
def Kills (p w : Nat) (c : Nat → Nat) (r : List Nat) : Prop := dot w r c % p = 0
structure RowOk (p w : Nat) (r : List Nat) : Prop where
  len : r.length = w
  lt : ∀ m, r.getD m 0 < p
def Pr (p : Nat) : Prop := p = 2 ∨ p = 3 ∨ p = 5 ∨ p = 7
theorem Pr.pos {p : Nat} (h : Pr p) : 0 < p := by
  rcases h with h | h | h | h <;> omega
theorem inv_ok {p : Nat} (hp : Pr p) : ∀ a < p, a ≠ 0 → a * inv p a % p = 1 := by
  rcases hp with rfl | rfl | rfl | rfl <;> decide
theorem getD_map_lt {f : Nat → Nat} {r : List Nat} {m : Nat} (h : m < r.length) : (r.map f).getD m 0 = f (r.getD m 0) := by
  simp [List.getD, h]
theorem getD_out {r : List Nat} {m : Nat} (h : r.length ≤ m) : r.getD m 0 = 0 := by
  simp [List.getD, h]
theorem freed_get {p j w : Nat} {r s : List Nat} (hr : r.length = w) (hs : s.length = w) {m : Nat} (hm : m < w) : (freed p j r s).getD m 0 = (s.getD m 0 + (p - s.getD j 0) * r.getD m 0) % p := by
  unfold freed
  dsimp only
  have h1 : m < s.length := by omega
  have h2 : m < r.length := by omega
  have e : (s.zip r)[m]? = some (s[m], r[m]) := List.getElem?_zip_eq_some.mpr ⟨List.getElem?_eq_getElem h1, List.getElem?_eq_getElem h2⟩
  simp [List.getD, h1, h2, List.getElem?_map, e]
theorem freed_len {p j w : Nat} {r s : List Nat} (hr : r.length = w) (hs : s.length = w) : (freed p j r s).length = w := by
  unfold freed
  dsimp only
  rw [List.length_map, List.length_zip]
  omega
theorem freed_ok {p j w : Nat} {r s : List Nat} (hp : 0 < p) (hr : RowOk p w r) (hs : RowOk p w s) : RowOk p w (freed p j r s) := by
  refine ⟨freed_len hr.len hs.len, fun m => ?_⟩
  by_cases h : m < w
  · rw [freed_get hr.len hs.len h]
    exact Nat.mod_lt _ hp
  · rw [getD_out (by rw [freed_len hr.len hs.len]; omega)]
    exact hp
theorem dot_freed {p j w : Nat} {r s : List Nat} (hr : r.length = w) (hs : s.length = w) (c : Nat → Nat) : dot w (freed p j r s) c % p = (dot w s c + (p - s.getD j 0) * dot w r c) % p := by
  unfold dot
  rw [← sumTo_mul, ← sumTo_add]
  apply sumTo_mod
  intro m hm
  rw [freed_get hr hs hm, Nat.mod_mul_mod, Nat.add_mul, Nat.mul_assoc]
theorem scaled_get {p v : Nat} {r : List Nat} {m : Nat} (h : m < r.length) : (r.map fun x => x * v % p).getD m 0 = r.getD m 0 * v % p := getD_map_lt (f := fun x => x * v % p) h
theorem scaled_ok {p v w : Nat} {r : List Nat} (hp : 0 < p) (hr : RowOk p w r) : RowOk p w (r.map fun x => x * v % p) := by
  refine ⟨by rw [List.length_map]; exact hr.len, fun m => ?_⟩
  by_cases h : m < r.length
  · rw [scaled_get h]
    exact Nat.mod_lt _ hp
  · rw [getD_out (by rw [List.length_map]; omega)]
    exact hp
theorem dot_scaled {p v w : Nat} {r : List Nat} (hr : r.length = w) (c : Nat → Nat) : dot w (r.map fun x => x * v % p) c % p = (v * dot w r c) % p := by
  unfold dot
  rw [← sumTo_mul]
  apply sumTo_mod
  intro m hm
  rw [scaled_get (by omega), Nat.mod_mul_mod, Nat.mul_comm (r.getD m 0) v, Nat.mul_assoc]
theorem kills_zero {p w : Nat} {r : List Nat} {c : Nat → Nat} (h : ∀ m < w, r.getD m 0 = 0) : Kills p w c r := by
  unfold Kills dot
  rw [sumTo_zero (fun m hm => by rw [h m hm, Nat.zero_mul])]
  exact Nat.zero_mod _
theorem kills_freed {p j w : Nat} {r s : List Nat} (hr : r.length = w) (hs : s.length = w) {c : Nat → Nat} (kr : Kills p w c r) : Kills p w c (freed p j r s) ↔ Kills p w c s := by
  unfold Kills at kr ⊢
  rw [dot_freed hr hs, Nat.add_mod, Nat.mul_mod, kr, Nat.mul_zero, Nat.zero_mod, Nat.add_zero, Nat.mod_mod]
theorem kills_scaled {p v w a : Nat} {r : List Nat} (hr : r.length = w) {c : Nat → Nat} (ha : a * v % p = 1) : Kills p w c (r.map fun x => x * v % p) ↔ Kills p w c r := by
  unfold Kills
  rw [dot_scaled hr]
  constructor
  · intro h
    have h1 : (a * (v * dot w r c)) % p = 0 := by rw [Nat.mul_mod, h, Nat.mul_zero, Nat.zero_mod]
    rw [← Nat.mul_assoc, Nat.mul_mod, ha, Nat.one_mul, Nat.mod_mod] at h1
    exact h1
  · intro h
    rw [Nat.mul_mod, h, Nat.mul_zero, Nat.zero_mod]

/-! ### the rows made simple -/
structure Piv (p w b : Nat) (z : Nat × List Nat) : Prop where
  row : RowOk p w z.2
  col : z.1 < b
  one : z.2.getD z.1 0 = 1
  low : ∀ m < z.1, z.2.getD m 0 = 0
structure Ech (p w b : Nat) (l : List (List Nat)) (k : List (Nat × List Nat)) : Prop where
  rows : ∀ r ∈ l, RowOk p w r
  zero : ∀ r ∈ l, ∀ m < b, r.getD m 0 = 0
  piv : ∀ z ∈ k, Piv p w b z
  off : ∀ z ∈ k, ∀ y ∈ k, z.1 ≠ y.1 → z.2.getD y.1 0 = 0
  uniq : ∀ z ∈ k, ∀ y ∈ k, z.1 = y.1 → z = y
theorem mem_eraseIdx_or {α : Type} [Inhabited α] : ∀ {l : List α} {a : Nat} {x d : α}, x ∈ l → a < l.length → x = l.getD a d ∨ x ∈ l.eraseIdx a
  | y :: l, 0, x, d, h, _ => by
    rcases List.mem_cons.mp h with h | h
    · exact .inl (by simp [h])
    · exact .inr (by simpa using h)
  | y :: l, a + 1, x, d, h, ha => by
    rcases List.mem_cons.mp h with h | h
    · exact .inr (by simp [h])
    · rcases mem_eraseIdx_or (d := d) h (by simpa using ha) with e | e
      · exact .inl (by simpa using e)
      · exact .inr (by simp [e])
theorem simple_ech {p w : Nat} (hp : Pr p) : ∀ (i : Nat) (l : List (List Nat)) (k : List (Nat × List Nat)), i ≤ w → Ech p w (w - i) l k →
    (∃ l', Ech p w w l' (simple p w i l k)) ∧ ∀ c : Nat → Nat, ((∀ r ∈ l, Kills p w c r) ∧ (∀ z ∈ k, Kills p w c z.2)) ↔ ∀ z ∈ simple p w i l k, Kills p w c z.2
  | 0, l, k, _, h => by
    refine ⟨⟨l, h⟩, fun c => ⟨fun q => q.2, fun q => ⟨fun r hr => kills_zero (h.zero r hr), q⟩⟩⟩
  | i + 1, l, k, hi, h => by
    have hpos := hp.pos
    unfold simple
    dsimp only
    have hj : w - (i + 1) < w := by omega
    have hb : w - i = w - (i + 1) + 1 := by omega
    generalize hjd : w - (i + 1) = j at *
    cases hf : l.findIdx? (fun r => r.getD j 0 != 0) with
    | none =>
      have hz : ∀ r ∈ l, r.getD j 0 = 0 := fun r hr => by
        have := List.findIdx?_eq_none_iff.mp hf r hr
        simpa using this
      refine simple_ech hp i l k (by omega) ⟨h.rows, fun r hr m hm => ?_, fun z hz => ?_, h.off, h.uniq⟩
      · by_cases e : m = j
        · subst e
          exact hz r hr
        · exact h.zero r hr m (by omega)
      · have q := h.piv z hz
        exact ⟨q.row, by have := q.col; omega, q.one, q.low⟩
    | some a =>
      dsimp only
      obtain ⟨ha, hra, _⟩ := List.findIdx?_eq_some_iff_getElem.mp hf
      have er : l.getD a [] = l[a] := by simp [List.getD, ha]
      rw [er]
      have hmem : l[a] ∈ l := List.getElem_mem ha
      generalize hrd : l[a] = r at *
      have hrow := h.rows r hmem
      have hrj : r.getD j 0 ≠ 0 := by simpa using hra
      have hv : r.getD j 0 * inv p (r.getD j 0) % p = 1 := inv_ok hp _ (hrow.lt j) hrj
      generalize inv p (r.getD j 0) = v at *
      have hu : RowOk p w (r.map fun x => x * v % p) := scaled_ok hpos hrow
      have uj : (r.map fun x => x * v % p).getD j 0 = 1 := by
        rw [scaled_get (by rw [hrow.len]; exact hj)]
        exact hv
      have ulow : ∀ m < j, (r.map fun x => x * v % p).getD m 0 = 0 := fun m hm => by
        rw [scaled_get (by rw [hrow.len]; omega), h.zero r hmem m hm, Nat.zero_mul, Nat.zero_mod]
      have kscale : ∀ c : Nat → Nat, Kills p w c (r.map fun x => x * v % p) ↔ Kills p w c r := fun c => kills_scaled hrow.len hv
      generalize (r.map fun x => x * v % p) = u at *
      -- a freed row
      have flow : ∀ s : List Nat, RowOk p w s → ∀ m < j, (freed p j u s).getD m 0 = s.getD m 0 := fun s hs m hm => by
        rw [freed_get hu.len hs.len (by omega), ulow m hm, Nat.mul_zero, Nat.add_zero, Nat.mod_eq_of_lt (hs.lt m)]
      have fj : ∀ s : List Nat, RowOk p w s → (freed p j u s).getD j 0 = 0 := fun s hs => by
        rw [freed_get hu.len hs.len hj, uj, Nat.mul_one]
        have := hs.lt j
        rw [show s.getD j 0 + (p - s.getD j 0) = p by omega, Nat.mod_self]
      have hl' : ∀ s ∈ l.eraseIdx a, s ∈ l := fun s hs => List.mem_of_mem_eraseIdx hs
      have hech : Ech p w (w - i) ((l.eraseIdx a).map (freed p j u)) ((k.map fun y => (y.1, freed p j u y.2)) ++ [(j, u)]) := by
        refine ⟨?_, ?_, ?_, ?_, ?_⟩
        · intro s hs
          obtain ⟨t, ht, rfl⟩ := List.mem_map.mp hs
          exact freed_ok hpos hu (h.rows t (hl' t ht))
        · intro s hs m hm
          obtain ⟨t, ht, rfl⟩ := List.mem_map.mp hs
          have hto := h.rows t (hl' t ht)
          by_cases e : m = j
          · subst e
            exact fj t hto
          · rw [flow t hto m (by omega)]
            exact h.zero t (hl' t ht) m (by omega)
        · intro z hz
          rcases List.mem_append.mp hz with hz | hz
          · obtain ⟨y, hy, rfl⟩ := List.mem_map.mp hz
            have q := h.piv y hy
            refine ⟨freed_ok hpos hu q.row, by have := q.col; show y.1 < w - i; omega, ?_, fun m hm => ?_⟩
            · show (freed p j u y.2).getD y.1 0 = 1
              rw [flow y.2 q.row y.1 q.col]
              exact q.one
            · show (freed p j u y.2).getD m 0 = 0
              have hm : m < y.1 := hm
              have := q.col
              rw [flow y.2 q.row m (by omega)]
              exact q.low m hm
          · rw [List.mem_singleton.mp hz]
            exact ⟨hu, by show j < w - i; omega, uj, ulow⟩
        · intro z hz y hy hne
          rcases List.mem_append.mp hz with hz | hz
          · obtain ⟨z', hz', rfl⟩ := List.mem_map.mp hz
            have q := h.piv z' hz'
            rcases List.mem_append.mp hy with hy | hy
            · obtain ⟨y', hy', rfl⟩ := List.mem_map.mp hy
              show (freed p j u z'.2).getD y'.1 0 = 0
              rw [flow z'.2 q.row y'.1 (h.piv y' hy').col]
              exact h.off z' hz' y' hy' hne
            · rw [List.mem_singleton.mp hy]
              exact fj z'.2 q.row
          · rw [List.mem_singleton.mp hz] at hne ⊢
            rcases List.mem_append.mp hy with hy | hy
            · obtain ⟨y', hy', rfl⟩ := List.mem_map.mp hy
              exact ulow y'.1 (h.piv y' hy').col
            · rw [List.mem_singleton.mp hy] at hne
              exact absurd rfl hne
        · intro z hz y hy e
          rcases List.mem_append.mp hz with hz | hz
          · obtain ⟨z', hz', rfl⟩ := List.mem_map.mp hz
            rcases List.mem_append.mp hy with hy | hy
            · obtain ⟨y', hy', rfl⟩ := List.mem_map.mp hy
              rw [h.uniq z' hz' y' hy' e]
            · rw [List.mem_singleton.mp hy] at e
              have := (h.piv z' hz').col
              have e : z'.1 = j := e
              omega
          · rw [List.mem_singleton.mp hz] at e ⊢
            rcases List.mem_append.mp hy with hy | hy
            · obtain ⟨y', hy', rfl⟩ := List.mem_map.mp hy
              have := (h.piv y' hy').col
              have e : j = y'.1 := e
              omega
            · rw [List.mem_singleton.mp hy]
      obtain ⟨h1, h2⟩ := simple_ech hp i _ _ (by omega) hech
      refine ⟨h1, fun c => Iff.trans ?_ (h2 c)⟩
      constructor
      · rintro ⟨q1, q2⟩
        have ku : Kills p w c u := (kscale c).mpr (q1 r hmem)
        refine ⟨fun s hs => ?_, fun z hz => ?_⟩
        · obtain ⟨t, ht, rfl⟩ := List.mem_map.mp hs
          exact (kills_freed hu.len (h.rows t (hl' t ht)).len ku).mpr (q1 t (hl' t ht))
        · rcases List.mem_append.mp hz with hz | hz
          · obtain ⟨y, hy, rfl⟩ := List.mem_map.mp hz
            exact (kills_freed hu.len (h.piv y hy).row.len ku).mpr (q2 y hy)
          · rw [List.mem_singleton.mp hz]
            exact ku
      · rintro ⟨q1, q2⟩
        have ku : Kills p w c u := q2 (j, u) (by simp)
        refine ⟨fun s hs => ?_, fun z hz => ?_⟩
        · rcases mem_eraseIdx_or (d := []) hs ha with e | e
          · rw [e, er]
            exact (kscale c).mp ku
          · exact (kills_freed hu.len (h.rows s hs).len ku).mp (q1 _ (List.mem_map.mpr ⟨s, e, rfl⟩))
        · exact (kills_freed hu.len (h.piv z hz).row.len ku).mp (q2 (z.1, freed p j u z.2) (List.mem_append.mpr (.inl (List.mem_map.mpr ⟨z, hz, rfl⟩))))
end KM
namespace KM
open Kzt1 (inv freed simple coords value row nullOf norm Term)

/-- a term's value at a point -/
def ev (p n : Nat) (e : List Nat) (x : Nat) : Nat := value p [⟨1, e⟩] (coords p n x)
theorem ev_lt {p n : Nat} {e : List Nat} {x : Nat} (hp : 0 < p) : ev p n e x < p := Nat.mod_lt _ hp
theorem row_get {p n : Nat} {ms : List (List Nat)} {x m : Nat} (h : m < ms.length) : (row p n ms x).getD m 0 = ev p n (ms.getD m []) x := by
  unfold row ev
  simp [List.getD, h]
theorem row_ok {p n : Nat} {ms : List (List Nat)} {x : Nat} (hp : 0 < p) : RowOk p ms.length (row p n ms x) := by
  have hl : (row p n ms x).length = ms.length := by
    unfold row
    rw [List.length_map]
  refine ⟨hl, fun m => ?_⟩
  by_cases h : m < ms.length
  · rw [row_get h]
    exact ev_lt hp
  · rw [getD_out (by rw [hl]; omega)]
    exact hp
/-- the terms up to the j-th one, that one with factor 1, come to 0 on the set -/
structure Nought (p n : Nat) (ms : List (List Nat)) (s : List Nat) (j : Nat) (c : Nat → Nat) : Prop where
  one : c j = 1
  lt : ∀ m, c m < p
  off : ∀ m, j < m → c m = 0
  nought : ∀ x ∈ s, sumTo (fun m => ev p n (ms.getD m []) x * c m) ms.length % p = 0
theorem Nought.kills {p n : Nat} {ms : List (List Nat)} {s : List Nat} {j : Nat} {c : Nat → Nat} (h : Nought p n ms s j c) : ∀ r ∈ s.map (row p n ms), Kills p ms.length c r := by
  intro r hr
  obtain ⟨x, hx, rfl⟩ := List.mem_map.mp hr
  have := h.nought x hx
  unfold Kills dot
  refine Eq.trans ?_ this
  congr 1
  apply sumTo_congr
  intro m hm
  rw [row_get hm]
theorem nought_of {p n : Nat} {ms : List (List Nat)} {s : List Nat} {j : Nat} {c : Nat → Nat} (one : c j = 1) (lt : ∀ m, c m < p) (off : ∀ m, j < m → c m = 0) (h : ∀ r ∈ s.map (row p n ms), Kills p ms.length c r) : Nought p n ms s j c := by
  refine ⟨one, lt, off, fun x hx => ?_⟩
  have := h _ (List.mem_map.mpr ⟨x, hx, rfl⟩)
  unfold Kills dot at this
  refine Eq.trans ?_ this
  congr 1
  apply sumTo_congr
  intro m hm
  rw [row_get hm]
section
variable {p w : Nat} {l' : List (List Nat)} {K : List (Nat × List Nat)}
def isPiv (K : List (Nat × List Nat)) (j : Nat) : Bool := K.any fun y => y.1 == j
theorem isPiv_iff {j : Nat} : isPiv K j = true ↔ ∃ z ∈ K, z.1 = j := by
  unfold isPiv
  rw [List.any_eq_true]
  simp
/-- where a row is nought, the last one's place is no pivot -/
theorem not_piv (hp : Pr p) (E : Ech p w w l' K) {c : Nat → Nat} {j : Nat} (one : c j = 1) (off : ∀ m, j < m → c m = 0) (h : ∀ z ∈ K, Kills p w c z.2) : isPiv K j = false := by
  cases e : isPiv K j with
  | false => rfl
  | true =>
    obtain ⟨z, hz, rfl⟩ := isPiv_iff.mp e
    have q := E.piv z hz
    have k := h z hz
    unfold Kills dot at k
    rw [sumTo_one (i := z.1) (fun m hm hne => ?_) q.col, q.one, one] at k
    · rcases hp with rfl | rfl | rfl | rfl <;> simp at k
    · rcases Nat.lt_or_ge m z.1 with c1 | c1
      · rw [q.low m c1, Nat.zero_mul]
      · rw [off m (by omega), Nat.mul_zero]
/-- what it is ahead of the last one's place -/
theorem coef_eq (hp : Pr p) (E : Ech p w w l' K) {c : Nat → Nat} {j : Nat} (hj : j < w) (one : c j = 1) (lt : ∀ m, c m < p) (off : ∀ m, j < m → c m = 0) (h : ∀ z ∈ K, Kills p w c z.2) (all : ∀ i < j, isPiv K i = true)
    {z : Nat × List Nat} (hz : z ∈ K) (hlt : z.1 < j) : c z.1 = (p - z.2.getD j 0 % p) % p := by
  have q := E.piv z hz
  have k := h z hz
  unfold Kills dot at k
  rw [sumTo_two (i := z.1) (j := j) (fun m hm h1 h2 => ?_) hlt hj, q.one, one, Nat.one_mul, Nat.mul_one] at k
  · have l1 := lt z.1
    have l2 := q.row.lt j
    rw [Nat.mod_eq_of_lt l2]
    generalize c z.1 = a at *
    generalize z.2.getD j 0 = b at *
    by_cases e : b = 0
    · subst e
      rw [Nat.add_zero, Nat.mod_eq_of_lt l1] at k
      rw [k, Nat.sub_zero, Nat.mod_self]
    · rw [Nat.mod_eq_of_lt (show p - b < p by omega)]
      rcases Nat.lt_or_ge (a + b) p with c1 | c1
      · rw [Nat.mod_eq_of_lt c1] at k
        omega
      · have e2 : (a + b) % p = a + b - p := by
          rw [Nat.mod_eq_sub_mod c1, Nat.mod_eq_of_lt (by omega)]
        omega
  · rcases Nat.lt_or_ge m j with c1 | c1
    · obtain ⟨y, hy, rfl⟩ := isPiv_iff.mp (all m c1)
      rw [E.off z hz y hy (fun e => h1 e.symm), Nat.zero_mul]
    · rw [off m (by omega), Nat.mul_zero]
/-- the one that is told: the first free place has 1, the pivots ahead of it what makes all nought -/
def sol (p : Nat) (K : List (Nat × List Nat)) (j m : Nat) : Nat := if m = j then 1 else match K.find? fun z => z.1 == m with
  | some z => (p - z.2.getD j 0 % p) % p
  | none => 0
theorem find_piv {m : Nat} (h : isPiv K m = true) : ∃ z ∈ K, z.1 = m ∧ (K.find? fun z => z.1 == m) = some z := by
  cases e : K.find? fun z => z.1 == m with
  | none =>
    obtain ⟨z, hz, q⟩ := isPiv_iff.mp h
    have := List.find?_eq_none.mp e z hz
    simp [q] at this
  | some z =>
    have h1 := List.mem_of_find?_eq_some e
    have h2 := List.find?_some e
    exact ⟨z, h1, by simpa using h2, rfl⟩
theorem find_free {m : Nat} (h : isPiv K m = false) : (K.find? fun z => z.1 == m) = none := by
  rw [List.find?_eq_none]
  intro z hz e
  have : isPiv K m = true := isPiv_iff.mpr ⟨z, hz, by simpa using e⟩
  rw [h] at this
  cases this
theorem sol_off (hp : Pr p) (E : Ech p w w l' K) {j m : Nat} (h : j < m) : sol p K j m = 0 := by
  unfold sol
  rw [if_neg (by omega)]
  cases e : isPiv K m with
  | false => rw [find_free e]
  | true =>
    obtain ⟨z, hz, hm, ez⟩ := find_piv e
    rw [ez]
    dsimp only
    rw [(E.piv z hz).low j (by omega), Nat.zero_mod, Nat.sub_zero, Nat.mod_self]
theorem sol_lt (hp : Pr p) {j m : Nat} : sol p K j m < p := by
  unfold sol
  split
  · rcases hp with rfl | rfl | rfl | rfl <;> decide
  · split
    · exact Nat.mod_lt _ hp.pos
    · exact hp.pos
theorem sol_kills (hp : Pr p) (E : Ech p w w l' K) {j : Nat} (hj : j < w) (free : isPiv K j = false) (all : ∀ i < j, isPiv K i = true) : ∀ z ∈ K, Kills p w (sol p K j) z.2 := by
  intro z hz
  have q := E.piv z hz
  have hne : z.1 ≠ j := fun e => by
    have : isPiv K j = true := isPiv_iff.mpr ⟨z, hz, e⟩
    rw [free] at this
    cases this
  unfold Kills dot
  rcases Nat.lt_or_ge z.1 j with c1 | c1
  · rw [sumTo_two (i := z.1) (j := j) (fun m hm h1 h2 => ?_) c1 hj, q.one]
    · obtain ⟨y, hy, hm, ey⟩ := find_piv (K := K) (m := z.1) (isPiv_iff.mpr ⟨z, hz, rfl⟩)
      have e1 : sol p K j z.1 = (p - z.2.getD j 0 % p) % p := by
        unfold sol
        rw [if_neg hne, ey, E.uniq y hy z hz hm]
      have e2 : sol p K j j = 1 := if_pos rfl
      rw [e1, e2, Nat.one_mul, Nat.mul_one, Nat.mod_eq_of_lt (q.row.lt j), Nat.mod_add_mod]
      have := q.row.lt j
      rw [show p - z.2.getD j 0 + z.2.getD j 0 = p by omega, Nat.mod_self]
    · rcases Nat.lt_or_ge m j with c2 | c2
      · obtain ⟨y, hy, rfl⟩ := isPiv_iff.mp (all m c2)
        rw [E.off z hz y hy (fun e => h1 e.symm), Nat.zero_mul]
      · rw [sol_off hp E (by omega), Nat.mul_zero]
  · rw [sumTo_zero (fun m hm => ?_)]
    · exact Nat.zero_mod _
    · rcases Nat.lt_or_ge m z.1 with c2 | c2
      · rw [q.low m c2, Nat.zero_mul]
      · rw [sol_off hp E (by omega), Nat.mul_zero]
end
/-! ### the first that is nought on the set -/
theorem null_ech {p n : Nat} (hp : Pr p) (ms : List (List Nat)) (s : List Nat) : (∃ l', Ech p ms.length ms.length l' (simple p ms.length ms.length (s.map (row p n ms)) [])) ∧
    ∀ c : Nat → Nat, (∀ r ∈ s.map (row p n ms), Kills p ms.length c r) ↔ ∀ z ∈ simple p ms.length ms.length (s.map (row p n ms)) [], Kills p ms.length c z.2 := by
  have h0 : Ech p ms.length (ms.length - ms.length) (s.map (row p n ms)) [] := by
    refine ⟨fun r hr => ?_, fun r hr m hm => ?_, by simp, by simp, by simp⟩
    · obtain ⟨x, _, rfl⟩ := List.mem_map.mp hr
      exact row_ok hp.pos
    · omega
  obtain ⟨h1, h2⟩ := simple_ech hp ms.length _ _ (Nat.le_refl _) h0
  refine ⟨h1, fun c => Iff.trans ⟨fun q => ⟨q, by simp⟩, fun q => q.1⟩ (h2 c)⟩
theorem first_free {w : Nat} {K : List (Nat × List Nat)} {j : Nat} (h : ((List.range w).find? fun j => !(K.any fun y => y.1 == j)) = some j) : j < w ∧ isPiv K j = false ∧ ∀ i < j, isPiv K i = true := by
  rw [List.find?_range_eq_some] at h
  refine ⟨by simpa using h.2.1, by simpa [isPiv] using h.1, fun i hi => ?_⟩
  have := h.2.2 i hi
  simpa [isPiv] using this
theorem nullOf_some {p n : Nat} (hp : Pr p) {ms : List (List Nat)} {s : List Nat} {j : Nat} {c : Nat → Nat} (hj : j < ms.length) (hc : Nought p n ms s j c) (hmin : ∀ i < j, ∀ d, ¬ Nought p n ms s i d) :
    nullOf p n ms s = some (norm p (ms.zipIdx.map fun y => ⟨c y.2, y.1⟩)) := by
  obtain ⟨⟨l', E⟩, hk⟩ := null_ech (n := n) hp ms s
  unfold nullOf
  dsimp only
  generalize simple p ms.length ms.length (s.map (row p n ms)) [] = K at *
  have kc := (hk c).mp hc.kills
  have nj : isPiv K j = false := not_piv hp E hc.one hc.off kc
  cases hf : (List.range ms.length).find? fun j => !(K.any fun y => y.1 == j) with
  | none =>
    have := List.find?_eq_none.mp hf j (List.mem_range.mpr hj)
    have e : isPiv K j = true := by simpa [isPiv] using this
    rw [nj] at e
    cases e
  | some i =>
    obtain ⟨hi, fi, all⟩ := first_free hf
    have e : i = j := by
      rcases Nat.lt_trichotomy i j with q | q | q
      · refine absurd (nought_of (c := sol p K i) ?_ (fun m => sol_lt hp) (fun m hm => sol_off hp E hm) ((hk _).mpr (sol_kills hp E hi fi all))) (hmin i q _)
        exact if_pos rfl
      · exact q
      · have := all j q
        rw [nj] at this
        cases this
    subst e
    dsimp only
    congr 2
    apply List.map_congr_left
    intro y hy
    have hy2 : y.2 < ms.length := by
      have := List.mem_zipIdx hy
      omega
    congr 1
    show sol p K i y.2 = c y.2
    rcases Nat.lt_trichotomy y.2 i with q | q | q
    · obtain ⟨z, hz, hm, ez⟩ := find_piv (all y.2 q)
      have := coef_eq hp E hi hc.one hc.lt hc.off kc all hz (by omega)
      unfold sol
      rw [if_neg (by omega), ez, ← hm, this]
    · rw [q, hc.one]
      exact if_pos rfl
    · rw [sol_off hp E q, hc.off _ q]
theorem nullOf_none {p n : Nat} (hp : Pr p) {ms : List (List Nat)} {s : List Nat} (h : ∀ j < ms.length, ∀ c, ¬ Nought p n ms s j c) : nullOf p n ms s = none := by
  obtain ⟨⟨l', E⟩, hk⟩ := null_ech (n := n) hp ms s
  unfold nullOf
  dsimp only
  generalize simple p ms.length ms.length (s.map (row p n ms)) [] = K at *
  cases hf : (List.range ms.length).find? fun j => !(K.any fun y => y.1 == j) with
  | none => rfl
  | some i =>
    obtain ⟨hi, fi, all⟩ := first_free hf
    refine absurd (nought_of (c := sol p K i) ?_ (fun m => sol_lt hp) (fun m hm => sol_off hp E hm) ((hk _).mpr (sol_kills hp E hi fi all))) (h i hi _)
    exact if_pos rfl
end KM
namespace KM
open Kzt1 (coords value row nullOf norm Term total before lexBefore put exps insertE monos leastOn least at1 degree powMod)

/-! ### all powers below p -/
theorem exps_mem {p : Nat} : ∀ {n : Nat} {e : List Nat}, e ∈ exps p n ↔ e.length = n ∧ ∀ a ∈ e, a < p
  | 0, e => by
    unfold exps
    constructor
    · intro h
      rw [List.mem_singleton.mp h]
      exact ⟨rfl, by simp⟩
    · intro h
      rw [List.length_eq_zero_iff.mp h.1]
      simp
  | n + 1, e => by
    unfold exps
    rw [List.mem_flatMap]
    constructor
    · rintro ⟨a, ha, h⟩
      obtain ⟨f, hf, rfl⟩ := List.mem_map.mp h
      obtain ⟨h1, h2⟩ := exps_mem.mp hf
      refine ⟨by rw [List.length_cons, h1], fun b hb => ?_⟩
      rcases List.mem_cons.mp hb with rfl | hb
      · exact List.mem_range.mp ha
      · exact h2 b hb
    · rintro ⟨h1, h2⟩
      cases e with
      | nil => simp at h1
      | cons a f =>
        refine ⟨a, List.mem_range.mpr (h2 a (by simp)), List.mem_map.mpr ⟨f, exps_mem.mpr ⟨by simpa using h1, fun b hb => h2 b (by simp [hb])⟩, rfl⟩⟩
theorem exps_nodup (p : Nat) : ∀ n : Nat, (exps p n).Nodup
  | 0 => by
    unfold exps
    simp
  | n + 1 => by
    unfold exps
    unfold List.Nodup
    rw [List.pairwise_flatMap]
    refine ⟨fun a _ => ?_, ?_⟩
    · rw [List.pairwise_map]
      exact List.Pairwise.imp (fun h e => h (List.cons.inj e).2) (exps_nodup p n)
    · refine List.Pairwise.imp ?_ List.nodup_range
      intro a b hab x hx y hy e
      obtain ⟨f, _, rfl⟩ := List.mem_map.mp hx
      obtain ⟨g, _, rfl⟩ := List.mem_map.mp hy
      exact hab (List.cons.inj e).1
theorem total_cons (a : Nat) (e : List Nat) : total (a :: e) = a + total e := by
  unfold total
  have key : ∀ (l : List Nat) (x : Nat), l.foldl (· + ·) x = x + l.foldl (· + ·) 0 := by
    intro l
    induction l with
    | nil => intro x; simp
    | cons b l ih =>
      intro x
      rw [List.foldl_cons, List.foldl_cons, ih, ih (0 + b)]
      omega
  rw [List.foldl_cons, key, Nat.zero_add]
theorem total_le {p : Nat} : ∀ {e : List Nat}, (∀ a ∈ e, a < p) → total e ≤ e.length * (p - 1)
  | [], _ => by simp [total]
  | a :: e, h => by
    have h1 := h a (by simp)
    have h2 := total_le (p := p) (e := e) fun b hb => h b (by simp [hb])
    rw [total_cons, List.length_cons, Nat.succ_mul]
    omega
/-! ### in order -/
def Sorted (l : List (List Nat)) : Prop := l.Pairwise fun a b => before a b = true
theorem insertE_mem {e : List Nat} : ∀ {l : List (List Nat)} {x : List Nat}, x ∈ insertE e l ↔ x = e ∨ x ∈ l
  | [], x => by
    unfold insertE
    simp
  | f :: l, x => by
    unfold insertE
    split
    · simp
    · rw [List.mem_cons, insertE_mem, List.mem_cons]
      constructor
      · rintro (h | h | h)
        · exact .inr (.inl h)
        · exact .inl h
        · exact .inr (.inr h)
      · rintro (h | h | h)
        · exact .inr (.inl h)
        · exact .inl h
        · exact .inr (.inr h)
theorem insertE_sorted {n : Nat} {e : List Nat} (he : e.length = n) : ∀ {l : List (List Nat)}, (∀ f ∈ l, f.length = n) → e ∉ l → Sorted l → Sorted (insertE e l)
  | [], _, _, _ => by
    unfold insertE
    exact List.pairwise_singleton _ _
  | f :: l, hl, hne, hs => by
    have hs' := List.pairwise_cons.mp hs
    unfold insertE
    split
    · next hb =>
      refine List.pairwise_cons.mpr ⟨fun x hx => ?_, hs⟩
      rcases List.mem_cons.mp hx with rfl | hx
      · exact hb
      · exact before_trans hb (hs'.1 x hx)
    · next hb =>
      refine List.pairwise_cons.mpr ⟨fun x hx => ?_, insertE_sorted he (fun g hg => hl g (by simp [hg])) (fun h => hne (by simp [h])) hs'.2⟩
      rcases insertE_mem.mp hx with rfl | hx
      · exact before_tri (by rw [he, hl f (by simp)]) (fun h => hne (by simp [h])) (Bool.eq_false_iff.mpr hb)
      · exact hs'.1 x hx
theorem sort_all {n : Nat} : ∀ {l : List (List Nat)}, (∀ f ∈ l, f.length = n) → l.Nodup → Sorted (l.foldr insertE []) ∧ ∀ x, x ∈ l.foldr insertE [] ↔ x ∈ l
  | [], _, _ => ⟨List.Pairwise.nil, by simp⟩
  | e :: l, hl, hn => by
    have hn' := List.nodup_cons.mp hn
    obtain ⟨h1, h2⟩ := sort_all (l := l) (fun f hf => hl f (by simp [hf])) hn'.2
    rw [List.foldr_cons]
    refine ⟨insertE_sorted (hl e (by simp)) (fun f hf => hl f (by simp [(h2 f).mp hf])) (fun h => hn'.1 ((h2 e).mp h)) h1, fun x => ?_⟩
    rw [insertE_mem, h2, List.mem_cons]
theorem monos_sorted (p n d : Nat) : Sorted (monos p n d) := (sort_all (n := n) (fun f hf => (exps_mem.mp (List.mem_filter.mp hf).1).1) ((exps_nodup p n).filter _)).1
theorem monos_mem {p n d : Nat} {e : List Nat} : e ∈ monos p n d ↔ (e.length = n ∧ ∀ a ∈ e, a < p) ∧ total e ≤ d := by
  unfold monos
  rw [(sort_all (n := n) (fun f hf => (exps_mem.mp (List.mem_filter.mp hf).1).1) ((exps_nodup p n).filter _)).2, List.mem_filter, exps_mem, decide_eq_true_eq]
theorem sorted_eq : ∀ {l m : List (List Nat)}, Sorted l → Sorted m → (∀ x, x ∈ l ↔ x ∈ m) → l = m
  | [], [], _, _, _ => rfl
  | [], y :: m, _, _, h => by
    have := (h y).mpr (by simp)
    cases this
  | x :: l, [], _, _, h => by
    have := (h x).mp (by simp)
    cases this
  | x :: l, y :: m, hl, hm, h => by
    have hl' := List.pairwise_cons.mp hl
    have hm' := List.pairwise_cons.mp hm
    have e : x = y := by
      rcases List.mem_cons.mp ((h x).mp (by simp)) with q | q
      · exact q
      · rcases List.mem_cons.mp ((h y).mpr (by simp)) with r | r
        · exact r.symm
        · have := before_asymm (hm'.1 x q)
          rw [hl'.1 y r] at this
          cases this
    subst e
    congr 1
    refine sorted_eq hl'.2 hm'.2 fun z => ?_
    constructor
    · intro hz
      rcases List.mem_cons.mp ((h z).mp (by simp [hz])) with q | q
      · subst q
        have := hl'.1 z hz
        rw [before_irrefl] at this
        cases this
      · exact q
    · intro hz
      rcases List.mem_cons.mp ((h z).mpr (by simp [hz])) with q | q
      · subst q
        have := hm'.1 z hz
        rw [before_irrefl] at this
        cases this
      · exact q
theorem monos_filter {p n d D : Nat} (h : d ≤ D) : monos p n d = (monos p n D).filter fun e => decide (total e ≤ d) := by
  refine sorted_eq (monos_sorted p n d) ((monos_sorted p n D).filter _) fun x => ?_
  rw [List.mem_filter, monos_mem, monos_mem, decide_eq_true_eq]
  constructor
  · intro q
    exact ⟨⟨q.1, by omega⟩, q.2⟩
  · intro q
    exact ⟨q.1.1, q.2⟩
theorem before_total {a b : List Nat} (h : before a b = true) : total a ≤ total b := by
  unfold before at h
  simp only [Bool.or_eq_true, decide_eq_true_eq, Bool.and_eq_true, beq_iff_eq] at h
  rcases h with h | h
  · omega
  · omega
theorem filter_prefix (d : Nat) : ∀ {M : List (List Nat)}, Sorted M → ∃ k ≤ M.length, (M.filter fun e => decide (total e ≤ d)) = M.take k ∧ ∀ i < M.length, (i < k ↔ total (M.getD i []) ≤ d)
  | [], _ => ⟨0, by simp, rfl, by simp⟩
  | e :: M, h => by
    have h' := List.pairwise_cons.mp h
    by_cases c : total e ≤ d
    · obtain ⟨k, hk, h1, h2⟩ := filter_prefix d h'.2
      refine ⟨k + 1, by simpa using hk, ?_, ?_⟩
      · rw [List.filter_cons_of_pos (by simpa using c), h1]
        rfl
      · intro i hi
        cases i with
        | zero =>
          constructor
          · intro _
            simpa using c
          · intro _
            omega
        | succ i =>
          have := h2 i (by simpa using hi)
          simpa using this
    · refine ⟨0, by simp, ?_, ?_⟩
      · rw [List.take_zero, List.filter_eq_nil_iff]
        intro x hx
        rcases List.mem_cons.mp hx with rfl | hx
        · simpa using c
        · have := before_total (h'.1 x hx)
          simp only [decide_eq_true_eq]
          omega
      · intro i hi
        refine ⟨fun z => by omega, fun z => ?_⟩
        exfalso
        have hm : (e :: M).getD i [] ∈ e :: M := by
          rw [List.getD_eq_getElem?_getD, List.getElem?_eq_getElem hi]
          exact List.getElem_mem hi
        rcases List.mem_cons.mp hm with q | q
        · rw [q] at z
          exact c z
        · have := before_total (h'.1 _ q)
          omega
theorem nought_take {p n : Nat} {M : List (List Nat)} {s : List Nat} {j k : Nat} {c : Nat → Nat} (hj : j < k) (hk : k ≤ M.length) : Nought p n (M.take k) s j c ↔ Nought p n M s j c := by
  have e : ∀ x : Nat, (∀ m, j < m → c m = 0) → sumTo (fun m => ev p n ((M.take k).getD m []) x * c m) (M.take k).length = sumTo (fun m => ev p n (M.getD m []) x * c m) M.length := fun x off => by
    rw [List.length_take, Nat.min_eq_left hk]
    rw [sumTo_cut (f := fun m => ev p n (M.getD m []) x * c m) (k := k) (fun m _ hm => by rw [off m (by omega), Nat.mul_zero]) hk]
    apply sumTo_congr
    intro m hm
    have : (M.take k).getD m [] = M.getD m [] := by
      simp [List.getD, List.getElem?_take, hm]
    rw [this]
  constructor
  · intro h
    exact ⟨h.one, h.lt, h.off, fun x hx => by rw [← e x h.off]; exact h.nought x hx⟩
  · intro h
    exact ⟨h.one, h.lt, h.off, fun x hx => by rw [e x h.off]; exact h.nought x hx⟩
/-! ### the least degree -/
theorem leastOn_some {p n : Nat} {s : List Nat} {d : Nat} {f : List Term} (hf : nullOf p n (monos p n d) s = some f) : ∀ (k d0 : Nat), d0 ≤ d → d < d0 + k → (∀ i, d0 ≤ i → i < d → nullOf p n (monos p n i) s = none) → leastOn p n s k d0 = some (d, f)
  | 0, d0, h1, h2, _ => by omega
  | k + 1, d0, h1, h2, h3 => by
    unfold leastOn
    by_cases e : d0 = d
    · subst e
      rw [hf]
    · rw [h3 d0 (Nat.le_refl _) (by omega)]
      exact leastOn_some hf k (d0 + 1) (by omega) (by omega) fun i h4 h5 => h3 i (by omega) h5
theorem leastOn_high {p n : Nat} {s : List Nat} {b : Nat} : ∀ (k d0 : Nat), (∀ i, d0 ≤ i → i < b → nullOf p n (monos p n i) s = none) → ∀ y, leastOn p n s k d0 = some y → b ≤ y.1
  | 0, d0, _, y, h => by
    unfold leastOn at h
    cases h
  | k + 1, d0, h3, y, h => by
    unfold leastOn at h
    by_cases e : d0 < b
    · rw [h3 d0 (Nat.le_refl _) e] at h
      exact leastOn_high k (d0 + 1) (fun i h4 h5 => h3 i (by omega) h5) y h
    · split at h
      · cases h
        show b ≤ d0
        omega
      · exact leastOn_high k (d0 + 1) (fun i h4 h5 => h3 i (by omega) h5) y h
/-- the terms that are told: those with a factor, up to the j-th one -/
def polyOf (M : List (List Nat)) (c : Nat → Nat) : List Term := (M.zipIdx.map fun y => (⟨c y.2, y.1⟩ : Term)).filter fun t => t.c != 0
theorem put_zero (p : Nat) (t : Term) (hc : t.c % p = 0) : ∀ f : List Term, (∀ u ∈ f, before u.e t.e = true) → put p t f = f
  | [], _ => by
    unfold put
    rw [if_pos hc]
  | u :: f, h => by
    have hu := h u (by simp)
    have hne : t.e ≠ u.e := fun e => by
      rw [e, before_irrefl] at hu
      cases hu
    unfold put
    rw [if_neg hne, before_asymm hu, if_neg Bool.false_ne_true, put_zero p t hc f (fun w hw => h w (by simp [hw]))]
theorem norm_zeros (p : Nat) (f : List Term) (hr : Rising f) (hc : ∀ t ∈ f, t.c < p) : norm p f = f.filter fun t => t.c != 0 := by
  have key : ∀ k ≤ f.length, norm p (f.take k) = (f.take k).filter fun t => t.c != 0 := by
    intro k
    induction k with
    | zero =>
      intro _
      rfl
    | succ k ih =>
      intro hk
      have hk' : k < f.length := by omega
      have hlt := hc _ (List.getElem_mem hk')
      have hb : ∀ u ∈ (f.take k).filter fun t => t.c != 0, before u.e f[k].e = true := by
        intro u hu
        obtain ⟨i, hi, rfl⟩ := List.mem_iff_getElem.mp (List.mem_filter.mp hu).1
        rw [List.length_take] at hi
        rw [List.getElem_take]
        exact List.pairwise_iff_getElem.mp hr i k (by omega) hk' (by omega)
      rw [List.take_succ_eq_append_getElem hk', norm_append, ih (by omega), List.filter_append]
      by_cases e : f[k].c = 0
      · rw [put_zero p f[k] (by rw [e, Nat.zero_mod]) _ hb]
        simp [e]
      · rw [put_last p f[k] (by rw [Nat.mod_eq_of_lt hlt]; exact e) _ hb, Nat.mod_eq_of_lt hlt]
        simp [e]
  have := key f.length (Nat.le_refl _)
  rwa [List.take_length] at this
theorem poly_rising {M : List (List Nat)} (h : Sorted M) (c : Nat → Nat) : Rising (M.zipIdx.map fun y => (⟨c y.2, y.1⟩ : Term)) := by
  unfold Rising
  rw [List.pairwise_iff_getElem]
  intro i j hi hj hij
  rw [List.length_map, List.length_zipIdx] at hi hj
  simp only [List.getElem_map, List.getElem_zipIdx]
  exact List.pairwise_iff_getElem.mp h i j hi hj hij
theorem polyOf_take {M : List (List Nat)} {c : Nat → Nat} {j k : Nat} (hj : j < M.length) (hk : j < k) (off : ∀ m, j < m → c m = 0) : polyOf (M.take k) c = polyOf (M.take (j + 1)) c := by
  have e : M.take k = M.take (j + 1) ++ (M.drop (j + 1)).take (k - (j + 1)) := by
    rw [← List.take_add]
    congr 1
    omega
  unfold polyOf
  rw [e, List.zipIdx_append, List.map_append, List.filter_append]
  have z : ((((M.drop (j + 1)).take (k - (j + 1))).zipIdx (0 + (M.take (j + 1)).length)).map fun y => (⟨c y.2, y.1⟩ : Term)).filter (fun t => t.c != 0) = [] := by
    rw [List.filter_eq_nil_iff]
    intro t ht
    obtain ⟨y, hy, rfl⟩ := List.mem_map.mp ht
    have h1 := (List.mem_zipIdx hy).1
    rw [List.length_take] at h1
    have q : c y.2 = 0 := off _ (by omega)
    simp [q]
  rw [z, List.append_nil]
theorem least_some {p n : Nat} (hp : Pr p) {D : Nat} {s : List Nat} {j : Nat} {c : Nat → Nat} (hj : j < (monos p n D).length) (hc : Nought p n (monos p n D) s j c) (hmin : ∀ i < j, ∀ d, ¬ Nought p n (monos p n D) s i d) :
    least p n s = some (total ((monos p n D).getD j []), polyOf ((monos p n D).take (j + 1)) c) := by
  have hmem : (monos p n D).getD j [] ∈ monos p n D := by
    rw [List.getD_eq_getElem?_getD, List.getElem?_eq_getElem hj]
    exact List.getElem_mem hj
  obtain ⟨⟨hl, hlt⟩, htot⟩ := monos_mem.mp hmem
  have hd : total ((monos p n D).getD j []) ≤ n * (p - 1) := by
    have := total_le hlt
    rwa [hl] at this
  unfold least
  generalize hdd : total ((monos p n D).getD j []) = d at *
  -- up to a degree
  have pre : ∀ i ≤ D, ∃ k ≤ (monos p n D).length, monos p n i = (monos p n D).take k ∧ ∀ m < (monos p n D).length, (m < k ↔ total ((monos p n D).getD m []) ≤ i) := fun i hi => by
    obtain ⟨k, hk, h1, h2⟩ := filter_prefix i (monos_sorted p n D)
    exact ⟨k, hk, (monos_filter hi).trans h1, h2⟩
  refine leastOn_some ?_ _ 0 (Nat.zero_le _) (by omega) fun i _ hi => ?_
  · obtain ⟨k, hk, h1, h2⟩ := pre d htot
    have hjk : j < k := (h2 j hj).mpr (by omega)
    rw [h1, nullOf_some hp (j := j) (c := c) (by rw [List.length_take]; omega) ((nought_take hjk hk).mpr hc) fun m hm e h => hmin m hm e ((nought_take (by omega) hk).mp h)]
    rw [norm_zeros p _ (poly_rising ((monos_sorted p n D).sublist (List.take_sublist _ _)) c) (fun t ht => ?_)]
    · congr 1
      exact polyOf_take hj hjk hc.off
    · obtain ⟨y, _, rfl⟩ := List.mem_map.mp ht
      exact hc.lt _
  · obtain ⟨k, hk, h1, h2⟩ := pre i (by omega)
    rw [h1]
    refine nullOf_none hp fun m hm e h => ?_
    rw [List.length_take] at hm
    have hmk : m < k := by omega
    have hmj : m < j := by
      rcases Nat.lt_or_ge m j with q | q
      · exact q
      · have q1 : ¬ j < k := fun z => by
          have := (h2 j hj).mp z
          omega
        omega
    exact hmin m hmj e ((nought_take hmk hk).mp h)
theorem least_high {p n : Nat} (hp : Pr p) {D : Nat} {s : List Nat} (h : ∀ j < (monos p n D).length, ∀ c, ¬ Nought p n (monos p n D) s j c) : ∀ y, least p n s = some y → D < y.1 := by
  intro y hy
  unfold least at hy
  refine leastOn_high (b := D + 1) _ 0 (fun i _ hi => ?_) y hy
  obtain ⟨k, hk, h1, h2⟩ := filter_prefix i (monos_sorted p n D)
  rw [monos_filter (show i ≤ D by omega), h1]
  refine nullOf_none hp fun m hm e q => ?_
  rw [List.length_take] at hm
  exact h m (by omega) e ((nought_take (by omega) hk).mp q)
/-! ### the highest terms at a point -/
theorem fold_mod (p : Nat) (hp : 0 < p) : ∀ (l : List (Nat × Nat)) (a : Nat), l.foldl (fun v y => v * powMod p y.2 y.1 % p) a % p = a * l.foldl (fun v y => v * powMod p y.2 y.1 % p) 1 % p
  | [], a => by simp
  | y :: l, a => by
    rw [List.foldl_cons, List.foldl_cons, fold_mod p hp l (a * powMod p y.2 y.1 % p), ← Nat.mul_mod_mod a (l.foldl _ (1 * powMod p y.2 y.1 % p)), fold_mod p hp l (1 * powMod p y.2 y.1 % p), Nat.one_mul, Nat.mod_mul_mod, Nat.mul_mod_mod, Nat.mul_assoc, ← Nat.mul_mod_mod a (powMod p y.2 y.1 % p * _), Nat.mod_mul_mod, Nat.mul_mod_mod]
def fv (p : Nat) (x : List Nat) (t : Term) : Nat := (t.e.zip x).foldl (fun v y => v * powMod p y.2 y.1 % p) t.c
theorem value_one (p : Nat) (e x : List Nat) : value p [⟨1, e⟩] x = fv p x ⟨1, e⟩ % p := by
  show (0 + fv p x ⟨1, e⟩) % p = _
  rw [Nat.zero_add]
theorem fv_mod (p : Nat) (hp : 0 < p) (x : List Nat) (t : Term) : fv p x t % p = t.c * value p [⟨1, t.e⟩] x % p := by
  rw [value_one]
  unfold fv
  rw [fold_mod p hp, Nat.mul_mod_mod]
theorem value_cons (p : Nat) (t : Term) (f : List Term) (x : List Nat) : value p (t :: f) x = (fv p x t + value p f x) % p := by
  have key : ∀ (l : List Nat) (a : Nat), l.foldl (· + ·) a = a + l.foldl (· + ·) 0 := by
    intro l
    induction l with
    | nil => intro a; simp
    | cons b l ih =>
      intro a
      rw [List.foldl_cons, List.foldl_cons, ih, ih (0 + b)]
      omega
  unfold value
  rw [List.map_cons, List.foldl_cons, key, Nat.zero_add, Nat.add_mod_mod]
  rfl
theorem value_append (p : Nat) (f g : List Term) (x : List Nat) : value p (f ++ g) x = (value p f x + value p g x) % p := by
  induction f with
  | nil =>
    show value p g x = (0 % p + value p g x) % p
    rw [Nat.zero_mod, Nat.zero_add]
    unfold value
    rw [Nat.mod_mod]
  | cons t f ih =>
    rw [List.cons_append, value_cons, ih, value_cons, Nat.add_mod_mod, Nat.mod_add_mod, Nat.add_assoc]
/-- the value of the terms that a test keeps -/
theorem value_kept {p n : Nat} (hp : 0 < p) (M : List (List Nat)) (c : Nat → Nat) (keep : List Nat → Bool) (x : Nat) : ∀ k ≤ M.length,
    value p ((polyOf (M.take k) c).filter fun t => keep t.e) (coords p n x) = sumTo (fun m => if keep (M.getD m []) = true then ev p n (M.getD m []) x * c m else 0) k % p
  | 0, _ => by
    simp [polyOf, sumTo, value]
  | k + 1, hk => by
    have hk' : k < M.length := by omega
    have ih := value_kept (n := n) hp M c keep x k (by omega)
    have e : polyOf (M.take (k + 1)) c = polyOf (M.take k) c ++ ([(⟨c k, M[k]⟩ : Term)].filter fun t => t.c != 0) := by
      unfold polyOf
      rw [List.take_succ_eq_append_getElem hk', List.zipIdx_append, List.map_append, List.filter_append]
      congr 1
      rw [List.length_take, Nat.min_eq_left (by omega), Nat.zero_add]
      rfl
    have eg : M.getD k [] = M[k] := by
      rw [List.getD_eq_getElem?_getD, List.getElem?_eq_getElem hk']
      rfl
    rw [e, List.filter_append, value_append, ih]
    show _ = (sumTo _ k + (if keep (M.getD k []) = true then ev p n (M.getD k []) x * c k else 0)) % p
    rw [Nat.mod_add_mod, eg]
    by_cases c0 : c k = 0
    · rw [c0]
      simp [value]
    · by_cases hk2 : keep M[k] = true
      · have : (([(⟨c k, M[k]⟩ : Term)].filter fun t => t.c != 0).filter fun t => keep t.e) = [⟨c k, M[k]⟩] := by
          simp [c0, hk2]
        rw [this, if_pos hk2]
        show (_ + (0 + fv p (coords p n x) ⟨c k, M[k]⟩) % p) % p = _
        rw [Nat.zero_add, fv_mod p hp, Nat.add_mod_mod, Nat.mul_comm]
        rfl
      · have : (([(⟨c k, M[k]⟩ : Term)].filter fun t => t.c != 0).filter fun t => keep t.e) = [] := by
          simp [hk2]
        rw [this, if_neg hk2]
        simp [value]
theorem degree_le {f : List Term} {d : Nat} (h : ∀ t ∈ f, total t.e ≤ d) (ht : ∃ t ∈ f, total t.e = d) : degree f = d := by
  unfold degree
  have key : ∀ (l : List Nat) (a : Nat), a ≤ d → (∀ b ∈ l, b ≤ d) → (l.foldl max a ≤ d ∧ a ≤ l.foldl max a ∧ ∀ b ∈ l, b ≤ l.foldl max a) := by
    intro l
    induction l with
    | nil =>
      intro a ha _
      exact ⟨ha, Nat.le_refl _, by simp⟩
    | cons b l ih =>
      intro a ha hl
      rw [List.foldl_cons]
      have hb := hl b (by simp)
      obtain ⟨h1, h2, h3⟩ := ih (max a b) (by omega) fun x hx => hl x (by simp [hx])
      refine ⟨h1, by omega, fun x hx => ?_⟩
      rcases List.mem_cons.mp hx with rfl | hx
      · omega
      · exact h3 x hx
  obtain ⟨h1, _, h3⟩ := key (f.map fun t => total t.e) 0 (Nat.zero_le _) fun b hb => by
    obtain ⟨t, ht, rfl⟩ := List.mem_map.mp hb
    exact h t ht
  obtain ⟨t, hm, rfl⟩ := ht
  have := h3 (total t.e) (List.mem_map.mpr ⟨t, hm, rfl⟩)
  omega
theorem mem_polyOf {M : List (List Nat)} {c : Nat → Nat} {t : Term} : t ∈ polyOf M c ↔ ∃ m < M.length, t = ⟨c m, M.getD m []⟩ ∧ c m ≠ 0 := by
  unfold polyOf
  rw [List.mem_filter, List.mem_map]
  constructor
  · rintro ⟨⟨y, hy, rfl⟩, h⟩
    have := List.mem_zipIdx hy
    refine ⟨y.2, by omega, ?_, by simpa using h⟩
    have e : M.getD y.2 [] = y.1 := by
      rw [List.getD_eq_getElem?_getD, List.getElem?_eq_getElem (by omega)]
      simp [this.2.2]
    rw [e]
  · rintro ⟨m, hm, rfl, h⟩
    refine ⟨⟨(M.getD m [], m), ?_, rfl⟩, by simpa using h⟩
    rw [List.mem_zipIdx_iff_getElem?]
    show M[m]? = some (M.getD m [])
    rw [List.getD_eq_getElem?_getD, List.getElem?_eq_getElem hm]
    rfl
theorem getD_take {M : List (List Nat)} {k m : Nat} (h : m < k) : (M.take k).getD m [] = M.getD m [] := by
  simp [List.getD, h]
theorem degree_poly {p n D : Nat} {j : Nat} {c : Nat → Nat} (hj : j < (monos p n D).length) (one : c j = 1) : degree (polyOf ((monos p n D).take (j + 1)) c) = total ((monos p n D).getD j []) := by
  refine degree_le (fun t ht => ?_) ⟨⟨c j, (monos p n D).getD j []⟩, ?_, rfl⟩
  · obtain ⟨m, hm, rfl, _⟩ := mem_polyOf.mp ht
    rw [List.length_take] at hm
    show total (((monos p n D).take (j + 1)).getD m []) ≤ _
    rw [getD_take (by omega)]
    rcases Nat.lt_or_ge m j with q | q
    · have h1 : m < (monos p n D).length := by omega
      have := List.pairwise_iff_getElem.mp (monos_sorted p n D) m j h1 hj q
      rw [List.getD_eq_getElem?_getD, List.getElem?_eq_getElem h1, List.getD_eq_getElem?_getD, List.getElem?_eq_getElem hj]
      exact before_total this
    · have : m = j := by omega
      rw [this]
      exact Nat.le_refl _
  · rw [mem_polyOf]
    refine ⟨j, by rw [List.length_take]; omega, ?_, by omega⟩
    rw [getD_take (by omega)]
/-- the highest terms' value at v -/
def hiSum (p n : Nat) (M : List (List Nat)) (c : Nat → Nat) (j v : Nat) : Nat := sumTo (fun m => if total (M.getD m []) = total (M.getD j []) then ev p n (M.getD m []) v * c m else 0) (j + 1) % p
theorem hi_eq {p n D : Nat} (hp : 0 < p) {j : Nat} {c : Nat → Nat} (hj : j < (monos p n D).length) (one : c j = 1) (v : Nat) : at1 p n (Kzt2.top (polyOf ((monos p n D).take (j + 1)) c)) v = hiSum p n (monos p n D) c j v := by
  unfold at1 Kzt2.top
  rw [degree_poly hj one]
  have := value_kept (n := n) hp (monos p n D) c (fun e => total e == total ((monos p n D).getD j [])) v (j + 1) (by omega)
  rw [this]
  unfold hiSum
  simp only [beq_iff_eq]
/-! ### told -/
theorem told_some {p n : Nat} (hp : Pr p) {s : List Nat} {j : Nat} {c : Nat → Nat} (hj : j < (monos p n (p - 1)).length) (hc : Nought p n (monos p n (p - 1)) s j c) (hmin : ∀ i < j, ∀ d, ¬ Nought p n (monos p n (p - 1)) s i d) :
    Kzt2.told1 p n s = (Kzt2.directions p n).find? fun v => hiSum p n (monos p n (p - 1)) c j v != 0 := by
  have hmem : (monos p n (p - 1)).getD j [] ∈ monos p n (p - 1) := by
    rw [List.getD_eq_getElem?_getD, List.getElem?_eq_getElem hj]
    exact List.getElem_mem hj
  have htot := (monos_mem.mp hmem).2
  have hpos := hp.pos
  unfold Kzt2.told1
  rw [least_some hp hj hc hmin]
  dsimp only
  rw [if_pos (by omega)]
  congr 1
  funext v
  rw [hi_eq hpos hj hc.one]
theorem told_none {p n : Nat} (hp : Pr p) {s : List Nat} (h : ∀ j < (monos p n (p - 1)).length, ∀ c, ¬ Nought p n (monos p n (p - 1)) s j c) : Kzt2.told1 p n s = none := by
  have hpos := hp.pos
  unfold Kzt2.told1
  cases e : least p n s with
  | none => rfl
  | some y =>
    have := least_high hp h y e
    obtain ⟨d, f⟩ := y
    dsimp only at this ⊢
    rw [if_neg (by omega)]
end KM
namespace KM
open Kzt1 (coords total lexBefore before monos)
/-! ### the terms of low degree, in their order -/
def nI (l : List Nat) : List Int := l.map fun (y : Nat) => (y : Int)
def rankI (e : List Nat) : List Int := nI (total e :: e)
theorem nI_cons (x : Nat) (l : List Nat) : nI (x :: l) = (x : Int) :: nI l := rfl
theorem lt_lex : ∀ a b : List Nat, a.length = b.length → (nI a < nI b ↔ lexBefore a b = true)
  | [], [], _ => by simp [nI, lexBefore]
  | [], _ :: _, h => by simp at h
  | _ :: _, [], h => by simp at h
  | x :: a, y :: b, h => by
    rw [nI_cons, nI_cons, List.cons_lt_cons_iff, lt_lex a b (by simpa using h)]
    show _ ↔ (decide (x < y) || (x == y && lexBefore a b)) = true
    simp only [Bool.or_eq_true, decide_eq_true_eq, Bool.and_eq_true, beq_iff_eq, Int.ofNat_lt, Int.natCast_inj]
theorem rank_lt {a b : List Nat} (h : a.length = b.length) : rankI a < rankI b ↔ before a b = true := by
  unfold rankI
  rw [nI_cons, nI_cons, List.cons_lt_cons_iff, lt_lex a b h]
  unfold before
  simp only [Bool.or_eq_true, decide_eq_true_eq, Bool.and_eq_true, beq_iff_eq, Int.ofNat_lt, Int.natCast_inj]
theorem coords_lt {p n x : Nat} (hp : 0 < p) : ∀ c ∈ coords p n x, c < p := by
  intro c hc
  unfold coords at hc
  obtain ⟨i, _, rfl⟩ := List.mem_map.mp hc
  exact Nat.mod_lt _ hp
/-- the terms ahead of the sort -/
def lowRaw (p n : Nat) : List (List Nat) := ((List.range (p ^ n)).map (coords p n)).filter fun e => decide (total e < p)
theorem lowRaw_nodup (p n : Nat) : (lowRaw p n).Nodup := by
  unfold lowRaw
  refine List.Pairwise.filter _ ?_
  rw [List.pairwise_map]
  refine List.Pairwise.imp_of_mem ?_ (List.nodup_range (n := p ^ n))
  intro a b ha hb hne e
  apply hne
  rw [← hor_coords p n a (List.mem_range.mp ha), e, hor_coords p n b (List.mem_range.mp hb)]
theorem lowRaw_mem {p n : Nat} (hp : 0 < p) {e : List Nat} : e ∈ lowRaw p n ↔ e ∈ monos p n (p - 1) := by
  unfold lowRaw
  rw [List.mem_filter, List.mem_map, monos_mem, decide_eq_true_eq]
  constructor
  · rintro ⟨⟨x, _, rfl⟩, h⟩
    exact ⟨⟨coords_length p n x, coords_lt hp⟩, by omega⟩
  · rintro ⟨⟨h1, h2⟩, h3⟩
    subst h1
    exact ⟨⟨hor p e, List.mem_range.mpr (hor_lt p e h2), coords_hor p e h2⟩, by omega⟩
theorem low_eq {p n : Nat} (hp : 0 < p) {ys : List (List Nat)} (hperm : ys.Perm (lowRaw p n)) (hs : ys.Pairwise fun a b => ¬ rankI b < rankI a) : ys = monos p n (p - 1) := by
  have hm : ∀ e, e ∈ ys ↔ e ∈ monos p n (p - 1) := fun e => by rw [hperm.mem_iff, lowRaw_mem hp]
  refine sorted_eq ?_ (monos_sorted p n (p - 1)) hm
  have nd : ys.Nodup := hperm.nodup_iff.mpr (lowRaw_nodup p n)
  unfold Sorted
  refine (List.Pairwise.and hs nd).imp_of_mem ?_
  rintro a b ha hb ⟨h1, h2⟩
  have la := (monos_mem.mp ((hm a).mp ha)).1.1
  have lb := (monos_mem.mp ((hm b).mp hb)).1.1
  have hl : b.length = a.length := by omega
  refine before_tri hl (fun e => h2 e.symm) ?_
  cases e : before b a with
  | false => rfl
  | true => exact absurd ((rank_lt hl).mpr e) h1
theorem sum_nI : ∀ e : List Nat, (nI e).sum = (total e : Int)
  | [] => rfl
  | x :: e => by
    rw [nI_cons, List.sum_cons, sum_nI e, total_cons]
    omega
theorem monos_len (p n d : Nat) : (monos p n d).length ≤ p ^ n := by
  have key : ∀ l : List (List Nat), (l.foldr Kzt1.insertE []).length = l.length := by
    intro l
    induction l with
    | nil => rfl
    | cons e l ih =>
      have ins : ∀ m : List (List Nat), (Kzt1.insertE e m).length = m.length + 1 := by
        intro m
        induction m with
        | nil => rfl
        | cons f m ihm =>
          unfold Kzt1.insertE
          split
          · rfl
          · rw [List.length_cons, ihm, List.length_cons]
      rw [List.foldr_cons, ins, ih, List.length_cons]
  have hex : ∀ n : Nat, (Kzt1.exps p n).length = p ^ n := by
    intro n
    induction n with
    | zero => rfl
    | succ n ih =>
      unfold Kzt1.exps
      rw [List.length_flatMap]
      simp only [List.length_map, ih]
      rw [List.map_const', List.sum_replicate_nat, List.length_range, Nat.pow_succ, Nat.mul_comm]
  unfold monos
  rw [key, ← hex n]
  exact List.length_filter_le _ _
end KM
namespace KM
open Kzt1 (Term total before okPoly degree readPoly written)
/-! ### a row's terms, one behind another -/
def rowsOf (k m : Nat) (l : List Nat) : List (List Nat) := (List.range m).map fun i => (l.drop (i * (k + 1))).take (k + 1)
def tRow (t : Term) : List Nat := t.c :: t.e
theorem rowsOf_cuts (k m : Nat) (l : List Nat) (h : l.length = m * (k + 1)) : rowsOf k m l = (cuts k m l).map tRow := by
  apply List.ext_getElem?
  intro i
  unfold rowsOf
  by_cases hi : i < m
  · have hlt : i * (k + 1) + (k + 1) ≤ l.length := by
      have : (i + 1) * (k + 1) ≤ m * (k + 1) := Nat.mul_le_mul_right _ hi
      rw [Nat.succ_mul] at this
      omega
    rw [List.getElem?_map, List.getElem?_map, cuts_get k m i l hi, List.getElem?_eq_getElem (by simpa using hi)]
    simp only [Option.map_some, List.getElem_range]
    congr 1
    unfold tRow
    have e := List.drop_eq_getElem_cons (i := i * (k + 1)) (l := l) (by omega)
    rw [e]
    rfl
  · rw [List.getElem?_eq_none (by simp; omega), List.getElem?_eq_none (by rw [List.length_map, cuts_length]; omega)]
theorem cuts_e (k m : Nat) (l : List Nat) (h : l.length = m * (k + 1)) : ∀ t ∈ cuts k m l, t.e.length = k := by
  intro t ht
  obtain ⟨i, hi⟩ := List.mem_iff_getElem?.mp ht
  have him : i < m := by
    have := (List.getElem?_eq_some_iff.mp hi).1
    rwa [cuts_length] at this
  rw [cuts_get k m i l him] at hi
  cases hi
  have : (i + 1) * (k + 1) ≤ m * (k + 1) := Nat.mul_le_mul_right _ him
  rw [Nat.succ_mul] at this
  show ((l.drop (i * (k + 1) + 1)).take k).length = k
  rw [List.length_take, List.length_drop]
  omega
/-! ### read from the left -/
def okT (p : Nat) (t : List Nat) : Bool := decide (1 ≤ t.headD 0) && decide (t.headD 0 < p) && t.tail.all fun x => decide (x ≤ 12)
def okUp (p : Nat) : List Int → List (List Nat) → Bool
  | _, [] => true
  | last, t :: f => okT p t && decide (last < rankI t.tail) && okUp p (rankI t.tail) f
theorem okT_term {p n : Nat} {t : Term} (h : t.e.length = n) : okT p (tRow t) = okTerm p n t := by
  unfold okT okTerm tRow
  rw [h]
  simp
theorem okUp_from {p n : Nat} : ∀ (f : List Term) (u : Term), u.e.length = n → (∀ t ∈ f, t.e.length = n) → okUp p (rankI u.e) (f.map tRow) = (f.all (okTerm p n) && upward (u :: f))
  | [], _, _, _ => rfl
  | t :: f, u, hu, h => by
    have ht := h t (by simp)
    have ih := okUp_from (p := p) f t ht fun x hx => h x (by simp [hx])
    show (okT p (tRow t) && decide (rankI u.e < rankI t.e) && okUp p (rankI t.e) (f.map tRow)) = (okTerm p n t && f.all (okTerm p n) && (before u.e t.e && upward (t :: f)))
    rw [ih, okT_term ht]
    have e : decide (rankI u.e < rankI t.e) = before u.e t.e := by
      rw [Bool.eq_iff_iff, decide_eq_true_eq]
      exact rank_lt (by omega)
    rw [e]
    cases okTerm p n t <;> cases f.all (okTerm p n) <;> cases before u.e t.e <;> rfl
theorem okUp_all {p n : Nat} (f : List Term) (h : ∀ t ∈ f, t.e.length = n) : okUp p [] (f.map tRow) = (f.all (okTerm p n) && upward f) := by
  cases f with
  | nil => rfl
  | cons t f =>
    have ht := h t (by simp)
    show (okT p (tRow t) && decide ([] < rankI t.e) && okUp p (rankI t.e) (f.map tRow)) = (okTerm p n t && f.all (okTerm p n) && upward (t :: f))
    rw [okUp_from f t ht fun x hx => h x (by simp [hx]), okT_term ht]
    have e : decide (([] : List Int) < rankI t.e) = true := decide_eq_true (by unfold rankI; rw [nI_cons]; exact List.nil_lt_cons _ _)
    rw [e]
    cases okTerm p n t <;> cases f.all (okTerm p n) <;> rfl
/-- is it a polynomial? -/
def okRow (p n : Nat) (l : List Nat) : Bool := decide (l.length % (n + 1) = 0) && okUp p [] (rowsOf n (l.length / (n + 1)) l)
theorem div_len {n : Nat} {l : List Nat} (h : l.length % (n + 1) = 0) : l.length = l.length / (n + 1) * (n + 1) := by
  have := Nat.div_add_mod l.length (n + 1)
  rw [h, Nat.add_zero, Nat.mul_comm] at this
  exact this.symm
theorem okRow_read (p n : Nat) (l : List Nat) : readPoly p n l = if okRow p n l = true then some (cuts n (l.length / (n + 1)) l) else none := by
  rw [readPoly_eq]
  unfold okRow
  by_cases h : l.length % (n + 1) = 0
  · have hl := div_len h
    rw [rowsOf_cuts n _ l hl, okUp_all _ (cuts_e n _ l hl), decide_eq_true h, Bool.true_and]
    by_cases c : ((cuts n (l.length / (n + 1)) l).all (okTerm p n) && upward (cuts n (l.length / (n + 1)) l)) = true
    · rw [if_pos ⟨h, c⟩, if_pos c]
    · rw [if_neg fun z => c z.2, if_neg c]
  · rw [if_neg fun z => h z.1, decide_eq_false h, Bool.false_and, if_neg Bool.false_ne_true]
/-! ### the highest terms -/
def topDeg (ts : List (List Nat)) : Nat := (ts.map fun t => total t.tail).foldl max 0
def hiT (ts : List (List Nat)) : List (List Nat) := ts.filter fun t => total t.tail == topDeg ts
theorem fold_max_spec : ∀ (l : List Nat) (a : Nat), (a ≤ l.foldl max a ∧ ∀ b ∈ l, b ≤ l.foldl max a) ∧ (l.foldl max a = a ∨ l.foldl max a ∈ l)
  | [], a => by simp
  | b :: l, a => by
    rw [List.foldl_cons]
    obtain ⟨⟨h1, h2⟩, h3⟩ := fold_max_spec l (max a b)
    refine ⟨⟨by omega, fun c hc => ?_⟩, ?_⟩
    · rcases List.mem_cons.mp hc with rfl | hc
      · omega
      · exact h2 c hc
    · rcases h3 with h3 | h3
      · rw [h3]
        rcases Nat.le_total a b with q | q
        · right
          rw [Nat.max_eq_right q]
          simp
        · left
          exact Nat.max_eq_left q
      · right
        simp [h3]
theorem topDeg_eq {ts : List (List Nat)} {m : Int} (h : (nI (ts.map fun t => total t.tail) = [] ∧ m = 0) ∨ (m ∈ nI (ts.map fun t => total t.tail) ∧ ∀ y, y ∈ nI (ts.map fun t => total t.tail) → y ≤ m)) : m = (topDeg ts : Int) := by
  unfold topDeg
  generalize (ts.map fun t => total t.tail) = l at h ⊢
  rcases h with ⟨h1, rfl⟩ | ⟨h1, h2⟩
  · cases l with
    | nil => rfl
    | cons x l => cases h1
  · unfold nI at h1 h2
    obtain ⟨x, hx, rfl⟩ := List.mem_map.mp h1
    obtain ⟨⟨_, k2⟩, k3⟩ := fold_max_spec l 0
    have a := k2 x hx
    rcases k3 with k3 | k3
    · omega
    · have b := h2 _ (List.mem_map.mpr ⟨_, k3, rfl⟩)
      omega
theorem hiT_top (f : List Term) : hiT (f.map tRow) = (Kzt2.top f).map tRow := by
  unfold hiT Kzt2.top
  have e : topDeg (f.map tRow) = degree f := by
    unfold topDeg degree
    rw [List.map_map]
    rfl
  rw [e, List.filter_map]
  rfl
theorem written_rows (f : List Term) : written f = ((f.map tRow).flatten) := by
  unfold written
  rw [List.flatMap_def]
  rfl
end KM
set_option Elab.async false
set_option linter.all false
set_option maxRecDepth 100000
set_option maxHeartbeats 2000000
namespace KM
open PySem PySem.Spec PyProof.Rows L2

/-! ### lists of ints as keys -/
abbrev encR (ns : List Int) : PyData := .list (ns.map .int)
theorem reads_ints {h : Heap} : ∀ {ns : List Int} {us : List Value}, Vals (ns.map V.int) us → ReadsAll h us (ns.map .int) []
  | [], _, r => by
    cases r
    exact .nil
  | n :: ns, _, r => by
    cases r with
    | cons r1 r2 =>
      obtain ⟨t, rfl⟩ := r1
      exact .cons (as := []) (bs := []) (.int n t) (reads_ints r2)
theorem reads_plain {h : Heap} {a : Addr} {its : List Value} {ns : List Int} (p : PlainL h a its.toArray) (r : Vals (ns.map V.int) its) : Reads h (.ref a) (encR ns) [a] := by
  obtain ⟨o, n, e, c, _, d⟩ := p
  exact .list e c d (by simpa using reads_ints r)
theorem reads_lst {P : Program} {w : World} {H : Hp} {h : Heap} {a : Addr} {ns : List Int} (o : ObjOk P w H h a (.lst (ns.map V.int))) : Reads h (.ref a) (encR ns) [a] := by
  obtain ⟨_, its, n, r, e⟩ := o
  exact reads_plain ⟨_, n, e, rfl, rfl, rfl⟩ r
theorem encR_alike (a b : List Int) : PySem.W.alike (encR a) (encR b) = true := by
  unfold PySem.W.alike
  exact PySem.W.alike_ints a b
theorem encR_depth (a : List Int) : (encR a).depth ≤ 1 := by
  unfold PyData.depth
  rw [PySem.W.depth_ints]
  exact Nat.le_refl _
theorem each_vals : ∀ {out : List Value} {bs : List V}, PySem.W.EachIs (fun v x => RelV x v) out bs → Vals bs out
  | _, _, .nil => .nil
  | _, _, .cons h t => .cons h (each_vals t)
theorem vals_each : ∀ {bs : List V} {out : List Value}, Vals bs out → PySem.W.EachIs (fun v x => RelV x v) out bs
  | _, _, .nil => .nil
  | _, _, .cons h t => .cons h (vals_each t)

/-! ### xs < ys, lists of ints -/
def rLtL (K : PySem.W.Frag) : R2 := fun x y H Q => ∃ (a b : Addr) (ns ms : List Int), x = .ref a ∧ y = .ref b ∧ SqL K H a (ns.map V.int) ∧ SqL K H b (ms.map V.int) ∧ Q (.bl (decide (ns < ms))) H
theorem op_ltL {X : Cx} (hu : X.A.units + 64 < cLine) : OpR X (compareOp .Lt) (rLtL X.K) := by
  intro pins s σ H x y v u Q I rx ry h
  obtain ⟨a, b, ns, ms, rfl, rfl, ha, hb, q⟩ := h
  cases rx
  cases ry
  obtain ⟨i1, r1, p1, _⟩ := I.list ha
  obtain ⟨i2, r2, p2, _⟩ := I.list hb
  have hd := encR_depth ns
  have R := PySem.W.rcLt_alike (encR ns) (encR ms) X.A s _ _ _ _ (reads_plain p1 r1) (reads_plain p2 r2) (encR_alike ns ms) (fun z => nomatch z) (by omega)
  have e : PySem.W.dataLt (encR ns) (encR ms) = decide (ns < ms) := by
    rw [PySem.W.dataLt_list]
    exact PySem.W.dataLt_ints ns ms
  rw [e] at R
  exact R X.prog X.w X.xe (EP X pins σ Q) ⟨.bl _, H, I, rfl, q⟩
end KM
set_option Elab.async false
set_option linter.all false
set_option maxRecDepth 100000
set_option maxHeartbeats 2000000
namespace KM
open PySem PySem.Spec PyProof.Rows L2
/-! ### sorted(xs, key=f): f a def of one's own that gives a new list of ints -/
def rSortK (K : PySem.W.Frag) (f : Addr) (sp : Sp) : List V → List V → Hp → VK → Prop := fun vs zs H Q =>
  ∃ (a : Addr) (xs : List V) (key : V → List Int), vs = [V.ref a] ∧ zs = [V.ref f] ∧ SqL K H a xs ∧
    (∀ x ∈ xs, ∀ H1 : Hp, Same H H1 → ∀ W : VK, (∀ (H2 : Hp) (q : Addr), Same H1 H2 → H1 q = none → H2 q = some (.lst ((key x).map V.int)) → W (.ref q) H2) → sp [x] H1 W E0) ∧
    ∀ (H' : Hp) (p : Addr), Same H H' → H p = none → H' p = some (.lst (xs.mergeSort fun x y => decide (key x ≤ key y))) → Q (.ref p) H'

/-- without the object at k -/
def drop1 (H : Hp) (k : Addr) : Hp := fun b => if b = k then none else H b
theorem drop1_ne {H : Hp} {k b : Addr} (h : b ≠ k) : drop1 H k b = H b := if_neg h
theorem drop1_at {H : Hp} {k : Addr} : drop1 H k k = none := if_pos rfl

section
variable {X : Cx} {f : Addr} {fd : FuncData} {ps : List Str} {sp : Sp} {lv : Nat} {pins : List (Addr × Obj)} {σ : L2.St}

/-- the end: the key store kS is forgotten, L holds what is sorted -/
theorem sort_done {Hi : Hp} {s' : Shared} {L kS : Addr} {o : Obj} {ks ys : List V} {out : List Value} {h' : Heap} {tk c : Nat} (I : Inv X pins σ Hi s') (hL : Hi L = some (.frz o (.lst []))) (hk : Hi kS = some (.lst ks))
    (hn : ∀ o' u', X.H_0 L ≠ some (.frz o' u')) (hs0 : X.s_0.heap.objs.size ≤ kS) (kp : PySem.W.KeepsBut L (PySem.W.hideAll s'.heap [kS]) h') (hz : ys.length ≤ sizeLine) (ro : Vals ys out)
    (ho : h'.get? L = some (seqObj "list" out.toArray c)) : Inv X pins σ (upd (drop1 (upd Hi L (.lst [])) kS) L (.lst ys)) { s' with heap := h', toks := tk } := by
  have hLk : L ≠ kS := fun e => by
    rw [e, hk] at hL
    cases hL
  have I1 := I.unlock hL hn
  have k1 : (upd Hi L (.lst [])) kS = some (.lst ks) := by
    rw [upd_ne hLk.symm]
    exact hk
  have l1 : (upd Hi L (.lst [])) L = some (.lst []) := upd_same
  generalize upd Hi L (.lst []) = H1 at I1 k1 l1
  have neT : ∀ b u, H1 b = some u → (∀ xs, u ≠ .lst xs) → b ≠ kS ∧ b ≠ L := fun b u e hu => ⟨fun z => by
    rw [z, k1] at e
    exact hu ks (Option.some.inj e).symm, fun z => by
    rw [z, l1] at e
    exact hu [] (Option.some.inj e).symm⟩
  have neN : ∀ b, H1 b = none → b ≠ kS ∧ b ≠ L := fun b e => by
    refine ⟨fun z => ?_, fun z => ?_⟩
    · rw [z, k1] at e
      cases e
    · rw [z, l1] at e
      cases e
  have keep : ∀ b u, b ≠ kS → b ≠ L → s'.heap.get? b = some u → h'.get? b = some u := fun b u n1 n2 e => kp b u n2 (PySem.W.hideAll_get [kS] e (by simpa using n1))
  have at' : ∀ b u, H1 b = some u → b ≠ kS → b ≠ L → upd (drop1 H1 kS) L (.lst ys) b = some u := fun b u e n1 n2 => by
    rw [upd_ne n2, drop1_ne n1]
    exact e
  refine I1.step (g' := s'.gens) (d' := s'.drawn) (t' := tk) (ch := [kS]) (fun b hb => ?_) (fun b u _ _ hc e n => ?_) (fun b u _ _ hc e n => ⟨u.slots, ?_⟩) (fun b u hc e n => ?_) (fun b u hc e => ?_) (fun b xs e => ?_) (fun b u x e => ?_) (fun b x e => ⟨#[], ?_⟩) (fun m hm => ?_) ?_ I1.bare
  · obtain rfl : b = kS := List.mem_singleton.mp hb
    refine ⟨.inr hs0, fun z => ?_, fun x c e z => ?_, fun p hp z => ?_⟩
    · have := I1.free
      rw [← z, k1] at this
      cases this
    · have := I1.freeC x c e
      rw [z, k1] at this
      cases this
    · have := (I1.pin p hp).2.1
      rw [z, k1] at this
      cases this
  · exact keep b u (neN b n).1 (neN b n).2 e
  · exact keep b u (neN b n).1 (neN b n).2 e
  · rw [upd_ne (neN b n).2, drop1_ne (neN b n).1]
    exact n
  · by_cases z : b = L
    · subst z
      exact ⟨_, ho⟩
    · exact ⟨u, keep b u (by simpa using hc) z e⟩
  · exact at' b _ e (neT b _ e (fun _ z => nomatch z)).1 (neT b _ e (fun _ z => nomatch z)).2
  · exact at' b _ e (neT b _ e (fun _ z => nomatch z)).1 (neT b _ e (fun _ z => nomatch z)).2
  · rw [at' b _ e (neT b _ e (fun _ z => nomatch z)).1 (neT b _ e (fun _ z => nomatch z)).2]
    simp
  · obtain ⟨o', es, ep, e, r⟩ := hm
    exact ⟨o', es, ep, keep _ _ (neN _ I1.free).1 (neN _ I1.free).2 e, r⟩
  · have hd : HOk X.prog X.w (drop1 H1 kS) (PySem.W.hideAll s'.heap [kS]) := fun b u e => by
      have hb : b ≠ kS := fun z => by
        rw [z, drop1_at] at e
        cases e
      rw [drop1_ne hb] at e
      refine (I1.hok b u e).stay (fun d v hc q => PySem.W.hideAll_get [kS] q ?_) (fun d q => ?_) fun d xs q => ?_
      · rcases hc with rfl | hc
        · simpa using hb
        · simpa using (neT d _ hc (fun _ z => nomatch z)).1
      · rw [drop1_ne (neT d _ q (fun _ z => nomatch z)).1]
        exact q
      · rw [drop1_ne (neT d _ q (fun _ z => nomatch z)).1]
        exact q
    refine hd.write (x := L) (e := L) ?_ (.inl rfl) (fun b u hb q => kp b u hb q) ⟨_, ho⟩ ⟨hz, out, c, ro, ho⟩
    rw [drop1_ne hLk, l1]
    trivial

/-- the keys that are made so far -/
def Keyed (X : Cx) (pins : List (Addr × Obj)) (σ : L2.St) (H : Hp) (L kS : Addr) (o : Obj) (xs : List V) (key : V → List Int) (i : Nat) (s' : Shared) : Prop :=
  ∃ (Hi : Hp) (ks : List V), Inv X pins σ Hi s' ∧ Same H Hi ∧ Hi L = some (.frz o (.lst [])) ∧ Hi kS = some (.lst ks) ∧ ks.length = i ∧
    ∀ j x, j < i → xs[j]? = some x → ∃ q, ks[j]? = some (.ref q) ∧ q ≠ kS ∧ Hi q = some (.lst ((key x).map V.int))

theorem cr_sortK (F : FnOk X.prog X.w X.K X.mg X.base CX0 lv f fd ps sp) (hr : Room (lv + 1) X.A) (hb : Binds X.K fd ps []) :
    CallRK X (.builtin "sorted") [Str.ofString "key"] (rSortK X.K f sp) := by
  intro pins s σ H vs zs us ws Q I r rz h
  obtain ⟨a, xs, key, rfl, rfl, hs, hsp, q⟩ := h
  obtain rfl := Vals.ref1 r
  obtain ⟨w1, rfl, e1⟩ := vals1 rz
  obtain rfl : w1 = Value.ref f := e1
  obtain ⟨its, rv, hl, hz⟩ := I.list hs
  have hlen : its.length = xs.length := rv.length.symm
  have hz' : its.length ≤ sizeLine := by omega
  show wpAny _ _ (call (.builtin "sorted") [.ref a] [(Str.ofString "key", .ref f)]) _ _ _
  refine PySem.W.sorted_of_sort (vs := its) hl.isList hz' (ksk_s1 _ _) (fun _ => ksk_l1 _ _) fun E' => ?_
  rw [ksk_t1]
  have ho := PySem.W.copyHeap_at s.heap its
  have hold : ∀ b u, s.heap.get? b = some u → (PySem.W.copyHeap s.heap its).get? b = some u := fun b u e => PySem.W.copyHeap_old e
  generalize PySem.W.copyHeap s.heap its = h1 at ho hold
  generalize hLd : s.heap.objs.size + 1 = L at ho ⊢
  have hLs : s.heap.objs.size ≤ L := by omega
  have hL1 : L < h1.objs.size := Heap.lt_size ho
  obtain ⟨e1, ho1⟩ : ∃ e1, (h1.update L (Obj.mapSeq fun _ => (#[] : Array Value))).get? L = some (seqObj "list" #[] e1) := ⟨_, get?_update_seq ho fun _ => #[]⟩
  have hold2 : ∀ b u, s.heap.get? b = some u → (h1.update L (Obj.mapSeq fun _ => (#[] : Array Value))).get? b = some u := fun b u e => by
    rw [Heap.get?_update_ne _ _ _ _ (Nat.ne_of_lt (Nat.lt_of_lt_of_le (Heap.lt_size e) hLs))]
    exact hold b u e
  have hsz2 : (h1.update L (Obj.mapSeq fun _ => (#[] : Array Value))).objs.size = h1.objs.size := Heap.size_update ..
  unfold ksk_tree
  refine wpAny_bind (listItems_at (s := { s with heap := h1 }) ho rfl ?_)
  refine wpAny_bind (listUpdate_at (s := { s with heap := h1 }) ho rfl ?_ (by rw [List.size_toArray]; exact hz') (Nat.zero_le _))
  generalize h1.update L (Obj.mapSeq fun _ => (#[] : Array Value)) = h2 at ho1 hold2 hsz2 ⊢
  refine wpAny_bind (seqEpoch_at (s := { s with heap := h2 }) ho1 rfl ?_)
  refine wpAny_bind (wpAny_newTuple ?_ (by show its.length ≤ _; exact hz'))
  refine wpAny_bind (wpAny_newList ?_ (Nat.zero_le _))
  refine wpAny_holding ?_
  have I0 : L2.Inv X pins σ (upd H L (.lst [])) { s with heap := h2.push (seqObj "tuple" its.toArray 0) } :=
    I.laid (t' := s.toks) (fun b u e => Heap.get?_push_of_some _ (hold2 b u e)) hLs ⟨Nat.zero_le _, [], e1, .nil, Heap.get?_push_of_some _ ho1⟩
  have hn := I0.nofrz (d := L) upd_same trivial
  obtain ⟨o, I1⟩ := I0.lock (d := L) upd_same trivial
  have eo : o = seqObj "list" #[] e1 := by
    have e := (I1.hok L _ upd_same).1
    rw [Heap.get?_push_of_some _ ho1] at e
    exact (Option.some.inj e).symm
  rw [upd_upd] at I1
  have hkf := I1.hok.fresh (Nat.le_refl _)
  have I2 := I1.laid (t' := s.toks) (a := (h2.push (seqObj "tuple" its.toArray 0)).objs.size) (o := .lst []) (h' := (h2.push (seqObj "tuple" its.toArray 0)).push (seqObj "list" #[] 0)) (fun b u e => Heap.get?_push_of_some _ e) (Nat.le_refl _) ⟨Nat.zero_le _, [], 0, .nil, Heap.get?_push_size _ rfl⟩
  have hks : s.heap.objs.size ≤ (h2.push (seqObj "tuple" its.toArray 0)).objs.size := by
    rw [size_push', hsz2]
    exact Nat.le_trans hLs (Nat.le_succ_of_le (Nat.le_of_lt hL1))
  show wpAny _ _ _ _ _ { s with heap := (h2.push (seqObj "tuple" its.toArray 0)).push (seqObj "list" #[] 0) }
  generalize (h2.push (seqObj "tuple" its.toArray 0)).objs.size = kS at I2 hks hkf ⊢
  generalize (h2.push (seqObj "tuple" its.toArray 0)).push (seqObj "list" #[] 0) = h4 at I2 ⊢
  have hkL : L ≠ kS := fun e => by
    rw [← e, upd_same] at hkf
    cases hkf
  have hHk : H kS = none := I.hok.fresh hks
  have hHL : H L = none := I.hok.fresh hLs
  unfold ksk_rest
  refine wpAny_bind (wpAny_rule ?_)
  rw [List.forIn_toArray]
  refine wpAny_bind (ksk_fold (Keyed X pins σ H L kS o xs key) its 0 _ ⟨_, [], I2, fun b u e => ?_, ?_, upd_same, rfl, fun j x h => absurd h (Nat.not_lt_zero _)⟩ ?step ?done)
  · rw [upd_ne (ne_of_none e hHk), upd_ne (ne_of_none e hHL)]
    exact e
  · rw [upd_ne hkL, upd_same]
  case step =>
    rintro j u s' hu ⟨Hi, ks, Ii, sm, hL, hk, hlk, hall⟩
    rw [Nat.zero_add] at hlk hall ⊢
    have hj : j < xs.length := by
      have := (List.getElem?_eq_some_iff.mp hu).1
      omega
    obtain ⟨u2, hu2, rx⟩ := rv.get (i := j) (x := xs[j]) (List.getElem?_eq_getElem hj)
    obtain rfl : u2 = u := Option.some.inj (hu2.symm.trans hu)
    have hxm : xs[j] ∈ xs := List.getElem_mem hj
    have hxj : xs[j]? = some xs[j] := List.getElem?_eq_getElem hj
    generalize xs[j] = x at rx hxm hxj
    have hps : ps.length = 1 := (F.len _ _ _ _ (hsp x hxm Hi sm (fun _ _ => True) fun _ _ _ _ _ => trivial)).symm
    have run : wpAny (model X.prog X.w) X.A.in1.in1 (call (.ref f) [u2]) (EP X pins σ fun v H' => ∃ q, v = .ref q ∧ Same Hi H' ∧ Hi q = none ∧ H' q = some (.lst ((key x).map V.int))) (fun _ _ => False) s' := by
      have bd := hb s' [u2] Ii.kIn (by rw [hps]; rfl)
      refine wpAny_call (codeAny_mono (F.run X.A.in1.in1 X.stack s' Hi ⟨[u2], []⟩ [u2] [x] (fun v H' => ∃ q, v = .ref q ∧ Same Hi H' ∧ Hi q = none ∧ H' q = some (.lst ((key x).map V.int))) E0 ?_ Ii.env0.in1.in1 bd (.cons rx .nil) (hsp x hxm Hi sm _ fun H2 q a1 a2 a3 => ⟨q, rfl, a1, a2, a3⟩)) fun r s2 hq => ?_)
      · exact ⟨hr.hd, by have := hr.dp; show X.A.depth + 3 * lv + 5 < _; omega, by have := hr.un; show X.A.units + 1 + 1 + 16 * lv + 200 < _; omega⟩
      · cases r with
        | error e => exact hq.elim
        | ok fl =>
          cases fl with
          | ret v => exact Ii.after hq
          | next => exact False.elim hq
          | brk => exact False.elim hq
          | cont => exact False.elim hq
    refine wpAny_bind (wpAny_attempt (wpAny_mono run (fun v s2 he => ?_) fun _ _ hF => hF.elim))
    obtain ⟨vv, H2, I2, rv2, p, rfl, sm2, np, hp⟩ := he
    obtain rfl : v = .ref p := rv2
    have hk2 := sm2 _ _ hk
    have hL2 := sm2 _ _ hL
    obtain ⟨hzk, kits, n2, rk, ek⟩ := I2.hok kS _ hk2
    have hpk : p ≠ kS := fun e => by
      rw [e, hk] at np
      cases np
    obtain ⟨c2, hc2⟩ : ∃ c2, (s2.heap.update kS (Obj.mapSeq (·.push (Value.ref p)))).get? kS = some (seqObj "list" (kits.toArray.push (.ref p)) c2) := ⟨_, get?_update_seq ek (·.push (.ref p))⟩
    have ea : kits.toArray.push (Value.ref p) = (kits ++ [Value.ref p]).toArray := by simp
    have hkl : kits.length = j := by
      rw [← rk.length]
      exact hlk
    dsimp only
    refine wpAny_bind (listUpdate_at ek rfl ?_ (by rw [List.size_toArray]; omega) (by rw [Array.size_push, List.size_toArray]; omega))
    rw [ea] at hc2
    refine wpAny_pure ⟨rfl, _, ks ++ [.ref p], I2.write (x := kS) (e := kS) (t' := s2.toks) (o := .lst (ks ++ [.ref p])) (by rw [hk2]; trivial) (.inl rfl) (fun b u hbk hu => ?_) ⟨_, hc2⟩ ⟨by rw [List.length_append, hlk]; show j + 1 ≤ _; omega, kits ++ [.ref p], c2, rk.append (.cons (show RelV (.ref p) (.ref p) from rfl) .nil), hc2⟩, fun b u e => ?_, ?_, upd_same, by rw [List.length_append, hlk]; rfl, fun i y hi hy => ?_⟩
    · rw [Heap.get?_update_ne _ _ _ _ hbk]
      exact hu
    · have := ne_of_none e hHk
      rw [upd_ne this]
      exact sm2 _ _ (sm _ _ e)
    · rw [upd_ne hkL]
      exact hL2
    · by_cases hij : i < j
      · obtain ⟨q', e1, e2, e3⟩ := hall i y hij hy
        refine ⟨q', ?_, e2, ?_⟩
        · rw [List.getElem?_append_left (by omega)]
          exact e1
        · rw [upd_ne e2]
          exact sm2 _ _ e3
      · have hij : i = j := by omega
        subst hij
        rw [hxj] at hy
        cases hy
        refine ⟨p, ?_, hpk, ?_⟩
        · rw [List.getElem?_append_right (by omega), hlk, Nat.sub_self]
          rfl
        · rw [upd_ne hpk]
          exact hp
  case done =>
    rintro s' ⟨Hi, ks, Ii, sm, hL, hk, hlk, hall⟩
    rw [Nat.zero_add] at hlk hall
    obtain ⟨hzk, kits, n2, rk, ek⟩ := Ii.hok kS _ hk
    have eL : s'.heap.get? L = some (seqObj "list" #[] e1) := by
      have := (Ii.hok L _ hL).1
      rw [eo] at this
      exact this
    have hkl : kits.length = its.length := by
      rw [← rk.length]
      exact hlk
    refine wpAny_bind (listItems_at ek rfl ?_)
    have hk' : PySem.W.EachIs (fun v d => ∃ as, Reads s'.heap v d as) kits (xs.map fun x => encR (key x)) := by
      refine PySem.W.EachIs.of_zip (by rw [List.length_map]; omega) fun pr hpr => ?_
      obtain ⟨i, hi, e⟩ := List.mem_iff_getElem.mp hpr
      rw [List.length_zip, List.length_map] at hi
      rw [List.getElem_zip, List.getElem_map] at e
      subst e
      have hx : i < xs.length := by omega
      obtain ⟨q', e1, e2, e3⟩ := hall i xs[i] (by omega) (List.getElem?_eq_getElem hx)
      obtain ⟨u, hu, ru⟩ := rk.get e1
      obtain rfl : u = .ref q' := ru
      have hki : i < kits.length := by omega
      rw [List.getElem?_eq_getElem hki] at hu
      refine ⟨[q'], ?_⟩
      show Reads s'.heap kits[i] _ _
      rw [Option.some.inj hu]
      exact reads_lst (Ii.hok q' _ e3)
    have hal : PySem.W.AllAlike (xs.map fun x => encR (key x)) := PySem.W.AllAlike.of fun a b => encR_alike _ _
    have hsk : PySem.W.Sortable (xs.map fun x => encR (key x)) := PySem.W.Sortable.others fun b => ⟨(fun z => nomatch z), fun _ z => nomatch z⟩
    have hu : ∀ d, d ∈ xs.map (fun x => encR (key x)) → X.A.in1.in1.units + d.depth < cLine := fun d hd => by
      obtain ⟨x, _, rfl⟩ := List.mem_map.mp hd
      have h1 := encR_depth (key x)
      have h2 := hr.un
      show X.A.units + 1 + 1 + _ < _
      omega
    refine PySem.W.keyH_end (κ := PySem.W.dataKind s'.heap (xs.map fun x => encR (key x))) (h₁ := PySem.W.hideAll s'.heap [kS]) (fun b u _ e => PySem.W.of_hideAll [kS] e) (PySem.W.hideAll_none [kS] (by simp)) ek eL hkL.symm (PySem.W.SortsAt.data (by simpa using hk') hal hsk hu) (by rw [List.size_toArray]; exact hkl) hz' fun h' tk c kp n3 => ⟨rfl, ?_⟩
    have ko : PySem.W.KeyedOut false (xs.map fun x => encR (key x)) its (PySem.W.sortVals (PySem.W.dataKind s'.heap (xs.map fun x => encR (key x))) false kits.toArray.toList its) := ⟨s'.heap, kits, hal, by simp, hk'⟩
    have ev := each_vals (PySem.W.keyedOut_each (R := fun v x => RelV x v) (fun x => encR (key x)) ko (vals_each rv))
    rw [PySem.W.dataLe_rows] at ev
    have hz3 : (xs.mergeSort fun x y => decide (key x ≤ key y)).length ≤ sizeLine := by
      rw [List.length_mergeSort]
      exact hz
    have hkk : Hi kS = some (.lst ks) := hk
    refine ⟨.ref L, _, sort_done Ii hL hk hn (Nat.le_trans I.sz hks) kp hz3 ev n3, rfl, q _ L (fun b u e => ?_) hHL upd_same⟩
    rw [upd_ne (ne_of_none e hHL), drop1_ne (ne_of_none e hHk), upd_ne (ne_of_none e hHL)]
    exact sm _ _ e
end
end KM
set_option Elab.async false
set_option linter.all false
set_option maxRecDepth 100000
set_option maxHeartbeats 2000000
namespace KM
open PySem PySem.Spec PyProof.Rows L2
/-! ### max(xs, default=d), a list of ints -/
/-- m is the greatest of the first j -/
def IsTop (val : Nat → Int) (m : Int) (j : Nat) : Prop := (∃ i, i < j ∧ val i = m) ∧ ∀ i, i < j → val i ≤ m
theorem isTop_one (val : Nat → Int) : IsTop val (val 0) 1 := ⟨⟨0, by omega, rfl⟩, fun i hi => by
  have : i = 0 := by omega
  rw [this]
  exact Int.le_refl _⟩
theorem isTop_up {val : Nat → Int} {m : Int} {j : Nat} (h : IsTop val m j) (hm : val j > m) : IsTop val (val j) (j + 1) := ⟨⟨j, by omega, rfl⟩, fun i hi => by
  by_cases e : i = j
  · rw [e]
    exact Int.le_refl _
  · have := h.2 i (by omega)
    omega⟩
theorem isTop_stay {val : Nat → Int} {m : Int} {j : Nat} (h : IsTop val m j) (hm : ¬ val j > m) : IsTop val m (j + 1) := by
  obtain ⟨⟨i, hi, e⟩, h2⟩ := h
  refine ⟨⟨i, by omega, e⟩, fun i hi => ?_⟩
  by_cases e : i = j
  · rw [e]
    omega
  · exact h2 i (by omega)
/-- what stands in the store: nothing yet, or the greatest so far -/
def Best (val : Nat → Int) (j : Nat) (xs : Array Value) : Prop := (j = 0 ∧ xs = #[]) ∨ ∃ m t, xs = #[Value.int m t, .int m t] ∧ IsTop val m j
section
variable {prog : Program} {w : World} {A : Around} {I : Addr} {fp wr : List Addr} {n : Nat} {P : Nat → Value → Prop} {St : Nat → Heap → Prop} {R : Result → Shared → Prop}
theorem maxD_loop (W : Walks prog w A.in1 I fp wr n P St) {val : Nat → Int} (hval : ∀ i v, P i v → ∃ t, v = .int (val i) t) {S : Addr} (hSf : S ∉ fp) (d : Value) :
    ∀ (k j : Nat) (s : Shared) (xs : Array Value) (c : Nat), n - j = k → j ≤ n → St j s.heap → Best val j xs → s.heap.get? S = some { cls := .type "list", dict := none, data := .seq xs c, slots := #[] } →
      (∀ v h' tk, ((n = 0 ∧ v = d) ∨ ∃ m t, v = .int m t ∧ IsTop val m n) → (∀ b o, b ∉ wr → b ≠ S → s.heap.get? b = some o → h'.get? b = some o) → R (.ok (.ret v)) { s with heap := h', toks := tk }) →
      codeAny (model prog w) A (.builtin "max.loop" ⟨[.ref I, .none, .ref S], [(Str.ofString "default", d)]⟩) R s := by
  have hSw : S ∉ wr := fun h => hSf (W.sub _ h)
  have hnm : (toString "max" ++ toString ".loop" : String) = "max.loop" := by decide
  have quiet : (Code.builtin "max.loop" ⟨[.ref I, .none, .ref S], [(Str.ofString "default", d)]⟩).quiet = true := plainId_quiet F.plain_max_loop _
  intro k
  induction k with
  | zero =>
    intro j s xs c hk hj hst hb hS hR
    obtain rfl : j = n := by omega
    apply codeAny_builtin F.entry_max_loop; rw [Around.under_plainId F.plain_max_loop _]
    show wpAny _ A.in1 (seqItems? (.ref S) >>= _) _ _ s; apply wpAny_bind; apply wpAny_seqItems hS rfl
    rcases hb with ⟨rfl, rfl⟩ | ⟨m, t, rfl, hm⟩
    · show wpAny _ A.in1 (tryCatch (pyNext (.ref I)) _ >>= _) _ _ s; apply wpAny_bind; apply wpAny_tryCatch; refine W.done s _ _ hst fun h' tk hk' => ?_
      refine wpAny_bind (wpAny_rule (wpAny_pure ?_))
      exact hR d h' tk (.inl ⟨rfl, rfl⟩) fun b o h1 h2 e => hk' b o h1 e
    · show wpAny _ A.in1 (tryCatch (pyNext (.ref I)) _ >>= _) _ _ s; apply wpAny_bind; apply wpAny_tryCatch; refine W.done s _ _ hst fun h' tk hk' => ?_
      have hS' := hk' S _ hSw hS
      show wpAny _ A.in1 (updateSeq S (fun _ => #[]) >>= _) _ _ _; apply wpAny_bind; refine wpAny_updateSeq hS' rfl (wpAny_bind (wpAny_letGo (wpAny_pure ?_)))
      exact hR _ _ tk (.inr ⟨m, t, rfl, hm⟩) fun b o h1 h2 e => (Heap.get?_update_other _ _ (Ne.symm h2)).trans (hk' b o h1 e)
  | succ k ih =>
    intro j s xs c hk hj hst hb hS hR
    have hlt : j < n := by omega
    apply codeAny_builtin F.entry_max_loop; rw [Around.under_plainId F.plain_max_loop _]
    show wpAny _ A.in1 (seqItems? (.ref S) >>= _) _ _ s; apply wpAny_bind; apply wpAny_seqItems hS rfl
    rcases hb with ⟨rfl, rfl⟩ | ⟨m, t, rfl, hm⟩
    · show wpAny _ A.in1 (tryCatch (pyNext (.ref I)) _ >>= _) _ _ s; apply wpAny_bind; apply wpAny_tryCatch; refine W.item 0 s _ _ hlt hst fun v h' tk hP hst' hk' => ?_
      have hS' := hk' S _ hSw hS
      obtain ⟨t, rfl⟩ := hval 0 v hP
      show wpAny _ A.in1 (updateSeq S (fun _ => #[_, _]) >>= _) _ _ _; apply wpAny_bind; refine wpAny_updateSeq hS' rfl ?_; rw [hnm]
      refine wpAny_pure ⟨quiet, ih 1 _ #[.int (val 0) t, .int (val 0) t] _ (by omega) hlt (W.frame _ _ _ hst' fun b hbf o e => ?_) (.inr ⟨_, t, rfl, isTop_one val⟩) (Heap.get?_update_self _ hS' rfl) fun v h2 tk2 hv hk2 => ?_⟩
      · exact (Heap.get?_update_other _ _ fun h : S = b => hSf (by rw [h]; exact hbf)).trans e
      · exact hR v h2 tk2 hv fun b o h1 h3 e => hk2 b o h1 h3 ((Heap.get?_update_other _ _ (Ne.symm h3)).trans (hk' b o h1 e))
    · show wpAny _ A.in1 (tryCatch (pyNext (.ref I)) _ >>= _) _ _ s; apply wpAny_bind; apply wpAny_tryCatch; refine W.item j s _ _ hlt hst fun v h' tk hP hst' hk' => ?_
      have hS' := hk' S _ hSw hS
      obtain ⟨u, rfl⟩ := hval j v hP
      show wpAny _ A.in1 (tryCatch (holding [_, _] (richCompare .Gt _ _ >>= _)) _ >>= _) _ _ _; apply wpAny_bind; apply wpAny_tryCatch; apply wpAny_holding; apply wpAny_bind
      refine richCompare_gives (op := .Gt) (typeIs_int _ _ u) (typeIs_int _ _ t) F.slot_int_gt F.entry_int_gt (F.args_int_gt_2 _ _) (gives_int_gt _ _ u t) (fun x => nomatch x) ?_
      refine wpAny_bind (wpAny_holding (wpAny_truthy_bool (wpAny_bind (wpAny_letGo (wpAny_pure ?_)))))
      by_cases hg : val j > m
      · rw [decide_eq_true hg, if_pos rfl]; apply wpAny_bind; refine wpAny_updateSeq hS' rfl (wpAny_bind (wpAny_letGo ?_)); rw [hnm]
        refine wpAny_pure ⟨quiet, ih (j + 1) _ #[.int (val j) u, .int (val j) u] _ (by omega) hlt (W.frame _ _ _ hst' fun b hbf o e => ?_) (.inr ⟨_, u, rfl, isTop_up hm hg⟩) (Heap.get?_update_self _ hS' rfl) fun v h2 tk2 hv hk2 => ?_⟩
        · exact (Heap.get?_update_other _ _ fun h : S = b => hSf (by rw [h]; exact hbf)).trans e
        · exact hR v h2 tk2 hv fun b o h1 h3 e => hk2 b o h1 h3 ((Heap.get?_update_other _ _ (Ne.symm h3)).trans (hk' b o h1 e))
      · rw [decide_eq_false hg, if_neg Bool.false_ne_true]; apply wpAny_bind; apply wpAny_letGo; rw [hnm]
        refine wpAny_pure ⟨quiet, ih (j + 1) _ #[.int m t, .int m t] c (by omega) hlt hst' (.inr ⟨m, t, rfl, isTop_stay hm hg⟩) hS' fun v h2 tk2 hv hk2 => ?_⟩
        exact hR v h2 tk2 hv fun b o h1 h3 e => hk2 b o h1 h3 (hk' b o h1 e)
end
theorem args_maxD (a d : Value) : argsOk "max" ⟨[a], [(Str.ofString "default", d)]⟩ := by unfold argsOk; kernel_rfl
section
variable {prog : Program} {w : World} {A : Around} {E : Value → Shared → Prop} {s : Shared}
theorem maxD_raw {l : Addr} {its : List Value} {ns : List Int} {d : Value} {Q : Value → Shared → Prop} (hh : A.handled = none) (hl : s.heap.IsList l its.toArray) (hi : IntsAre its ns)
    (h : ∀ v h' tk, (∀ b o, s.heap.get? b = some o → h'.get? b = some o) → ((ns = [] ∧ v = d) ∨ ∃ m t, v = .int m t ∧ m ∈ ns ∧ ∀ y, y ∈ ns → y ≤ m) → Q v { s with heap := h', toks := tk }) :
    wpAny (model prog w) A (call (.builtin "max") [.ref l] [(Str.ofString "default", d)]) Q E s := by
  have hnm : (toString "max" ++ toString ".loop" : String) = "max.loop" := by decide
  have hlt : l < s.heap.objs.size := by obtain ⟨_, e, _⟩ := hl; exact Heap.lt_size e
  have hlen : its.length = ns.length := hi.length
  have body : wpAny (model prog w) A.in1 (Builtin.«max» ⟨[.ref l], [(Str.ofString "default", d)]⟩) (fun fin s' => match fin with
      | .done f => (match (Except.ok f : Result) with | .ok (.ret v) => Q v s' | .ok _ => False | .error e => E e s')
      | .again c' => c'.quiet = true ∧ codeAny (model prog w) A c' (fun r s' => match r with | .ok (.ret v) => Q v s' | .ok _ => False | .error e => E e s') s') E s := by
    show wpAny _ A.in1 (Builtin.Builtins.bindParams "max" ["key", "default"] 0 ⟨[], [(Str.ofString "default", d)]⟩ >>= _) _ _ s
    refine wpAny_bind (wpAny_of_eq (show Builtin.Builtins.bindParams "max" ["key", "default"] 0 ⟨[], [(Str.ofString "default", d)]⟩ = pure [none, some d] from rfl) ?_)
    refine wpAny_bind (wpAny_pure (wpAny_bind (wpAny_pyIter_list hl ?_)))
    have hlI : l ≠ s.heap.objs.size := Nat.ne_of_lt hlt
    have W := Walks.list (prog := prog) (w := w) (A := A.in1) hh s.heap.objs.size l hlI its.toArray
    refine wpAny_bind (wpAny_newObj_type ?_); rw [hnm]
    refine wpAny_pure ⟨plainId_quiet F.plain_max_loop _, maxD_loop W (val := fun i => ns.getD i 0) (fun i v hv => ?_) ?_ d _ 0 _ #[] _ rfl (Nat.zero_le _) ⟨?_, ?_⟩ (.inl ⟨rfl, rfl⟩) (Heap.get?_push_size _ rfl) fun v h' tk hv hk => ?_⟩
    · exact IntsAre.int_at hi _ _ (by simpa using hv)
    · intro hm
      rcases List.mem_cons.mp hm with e | hm
      · rw [size_push'] at e
        exact absurd e (Nat.succ_ne_self _)
      · have e := List.mem_singleton.mp hm
        rw [size_push'] at e
        exact absurd (e ▸ hlt) (Nat.not_lt.mpr (Nat.le_succ _))
    · exact ⟨_, Heap.get?_push_of_some _ (Heap.get?_push_size _ rfl), rfl, rfl⟩
    · exact (hl.push _).push _
    · refine h v h' tk (fun b o e => hk b o (fun hm => ?_) (fun e2 => ?_) (Heap.get?_push_of_some _ (Heap.get?_push_of_some _ e))) ?_
      · have e3 := List.mem_singleton.mp hm
        exact absurd (e3 ▸ Heap.lt_size e) (Nat.lt_irrefl _)
      · rw [size_push'] at e2
        exact absurd (e2 ▸ Heap.lt_size e) (Nat.not_lt.mpr (Nat.le_succ _))
      · have hsz : its.toArray.size = ns.length := by rw [List.size_toArray]; exact hlen
        rw [hsz] at hv
        rcases hv with ⟨h0, rfl⟩ | ⟨m, t, rfl, ⟨i, hi2, e⟩, h2⟩
        · exact .inl ⟨List.length_eq_zero_iff.mp h0, rfl⟩
        · refine .inr ⟨m, t, rfl, ?_, fun y hy => ?_⟩
          · rw [← e]
            show ns.getD i 0 ∈ ns
            rw [List.getD_eq_getElem?_getD, List.getElem?_eq_getElem hi2]
            exact List.getElem_mem hi2
          · obtain ⟨j, hj, rfl⟩ := List.mem_iff_getElem.mp hy
            have : ns.getD j 0 ≤ m := h2 j hj
            rw [List.getD_eq_getElem?_getD, List.getElem?_eq_getElem hj] at this
            exact this
  refine wpAny_call (codeAny_call_builtin F.plain_max F.entry_max ?_)
  simp only [checkBuiltinCall, F.kind_max]
  have ha := args_maxD (.ref l) d
  cases hsig : Manifest.signature? "max" with
  | none => exact wpAny_pure body
  | some sig =>
    have ha' : Bind.checkArgs "max" sig ⟨[.ref l], [(Str.ofString "default", d)]⟩ = pure () := by simpa only [argsOk, hsig] using ha
    simp only [ha']
    exact wpAny_pure body
end
def rMaxD (K : PySem.W.Frag) : List V → List V → Hp → VK → Prop := fun vs zs H Q => ∃ (a : Addr) (ns : List Int) (d : Int), vs = [V.ref a] ∧ zs = [V.int d] ∧ SqL K H a (ns.map V.int) ∧ ∀ m, ((ns = [] ∧ m = d) ∨ (m ∈ ns ∧ ∀ y, y ∈ ns → y ≤ m)) → Q (.int m) H
theorem cr_maxD {X : Cx} (hc : X.calm = true) : CallRK X (.builtin "max") [Str.ofString "default"] (rMaxD X.K) := by
  intro pins s σ H vs zs us ws Q I r rz h
  obtain ⟨a, ns, d, rfl, rfl, hs, q⟩ := h
  obtain ⟨its, rv, hl, _⟩ := I.list hs
  obtain rfl := Vals.ref1 r
  obtain ⟨w1, rfl, e1⟩ := vals1 rz
  obtain ⟨t0, rfl⟩ := e1
  refine maxD_raw (I.ok.hd hc) hl.isList rv.ints fun v h' tk hk hv => ?_
  rcases hv with ⟨h0, rfl⟩ | ⟨m, t, rfl, h1, h2⟩
  · exact ⟨.int _, H, I.kept hk, ⟨_, rfl⟩, q d (.inl ⟨h0, rfl⟩)⟩
  · exact ⟨.int _, H, I.kept hk, ⟨_, rfl⟩, q m (.inr ⟨h1, h2⟩)⟩
end KM
namespace KM
open PySem PySem.Spec PyProof.Rows L2
def topS (i : Nat) : Stmt := PySem.Challenge.pw_everywaydesk_s06_top.main.body.getD i (.Pass ⟨0, 0, 0, 0⟩)
abbrev sTop : Stmt := topS 5
abbrev sSpace : Stmt := topS 6
abbrev sTor : Stmt := topS 7
abbrev sDeg : Stmt := topS 8
abbrev sRank : Stmt := topS 9
abbrev sTerm : Stmt := topS 10
abbrev sPoly : Stmt := topS 11
abbrev sHigh : Stmt := topS 12
end KM
namespace KM
open PySem PySem.Spec PyProof.Rows L2
abbrev iv (k : Nat) : V := .int (k : Int)
def ivs (l : List Nat) : List V := l.map iv
theorem ivs_length (l : List Nat) : (ivs l).length = l.length := List.length_map ..
theorem ivs_append (a b : List Nat) : ivs (a ++ b) = ivs a ++ ivs b := List.map_append ..
theorem ivs_get {l : List Nat} {i : Nat} {c : Nat} (h : l[i]? = some c) : (ivs l)[i]? = some (iv c) := by
  unfold ivs
  rw [List.getElem?_map, h]
  rfl
theorem ivs_at {l : List Nat} {i : Nat} {x : V} (h : (ivs l)[i]? = some x) : ∃ c, l[i]? = some c ∧ x = iv c := by
  unfold ivs at h
  rw [List.getElem?_map] at h
  cases e : l[i]? with
  | none =>
    rw [e] at h
    cases h
  | some c =>
    rw [e] at h
    exact ⟨c, rfl, (Option.some.inj h).symm⟩
theorem same_upd {H : Hp} {p : Addr} {o : HO} (h : H p = none) : Same H (upd H p o) := fun b x e => by
  rw [upd_ne (ne_of_none e h)]
  exact e
theorem same_new {H H' : Hp} {p : Addr} {o : HO} (s : Same H H') (h : H p = none) : Same H (upd H' p o) := fun b x e => by
  rw [upd_ne (ne_of_none e h)]
  exact s _ _ e
theorem ne_free {H : Hp} {a b : Addr} {o : HO} (h : H a = some o) (n : H b = none) : b ≠ a := fun e => by
  rw [e, h] at n
  cases n
theorem decide_iv (a b : Nat) : decide (iv a = iv b) = decide (a = b) := by
  by_cases h : a = b
  · subst h; simp
  · have : iv a ≠ iv b := fun e => h (by have := V.int.inj e; omega)
    simp [h, this]
theorem sz {n : Nat} (h : n ≤ 1000) : n < sizeLine := small1000 h

structure Txt (K : PySem.W.Frag) (mg : Str → Option Value) (aP : Addr) (tM tW tN : Nat) : Prop where
  gP : mg "PRIMES" = some (.ref aP)
  hP : ∀ H : Hp, SqT K H aP (ivs [2, 3, 5, 7])
  gM : mg "MOST_NUMBERS" = some (.int 3 tM)
  gW : mg "WRONG_FORM" = some (.int (-22) tW)
  range : mg "range" = none

/-! ### the promises -/
def spSpace : Sp := fun vs H Q _ => ∃ p n : Nat, vs = [iv p, iv n] ∧ Q (.bl (Kzt1.okField p n)) H
def spCount : Sp := fun vs H Q _ => ∃ p n : Nat, vs = [iv p, iv n] ∧ p ≤ 7 ∧ n ≤ 3 ∧ Q (iv (p ^ n)) H
def spPoint : Sp := fun vs H Q _ => ∃ p n x : Nat, vs = [iv p, iv n, iv x] ∧ p ≤ 7 ∧ n ≤ 3 ∧ Q (.bl (decide (x < p ^ n))) H
def spNums : Sp := fun vs H Q _ => ∃ p n x : Nat, vs = [iv p, iv n, iv x] ∧ 0 < p ∧ p ≤ 7 ∧ n ≤ 3 ∧ ∀ (H' : Hp) (a : Addr), Same H H' → H a = none → H' a = some (.lst (ivs (Kzt1.coords p n x))) → Q (.ref a) H'
def spDir : Sp := fun vs H Q _ => ∃ p n v : Nat, vs = [iv p, iv n, iv v] ∧ 0 < p ∧ p ≤ 7 ∧ n ≤ 3 ∧ ∀ H' : Hp, Same H H' → Q (.bl (isDir p n v)) H'

end KM
namespace KM
open PySem PySem.Spec PyProof.Rows L2
section
variable {P : Program} {w : World} {K : PySem.W.Frag} {mg : Str → Option Value} {base : Heap} {aP : Addr} {tM tW tN : Nat}
theorem scSpace : FnScope ["p", "n"] ["p", "n"] (defScope sSpace) := ⟨rfl, rfl, rfl, by decide +kernel, rfl, by decide +kernel, by decide +kernel⟩
theorem in_primes (p : Nat) : inV (iv p) (ivs [2, 3, 5, 7]) = (p == 2 || p == 3 || p == 5 || p == 7) := by
  have e : ∀ q : Nat, eqV (iv q) (iv p) = (p == q) := fun q => by
    show ((q : Int) == (p : Int)) = (p == q)
    rw [Bool.eq_iff_iff]
    simp only [beq_iff_eq]
    omega
  show (eqV (iv 2) (iv p) || (eqV (iv 3) (iv p) || (eqV (iv 5) (iv p) || (eqV (iv 7) (iv p) || false)))) = _
  rw [e, e, e, e, Bool.or_false, Bool.or_assoc, Bool.or_assoc]
theorem ok_space {f : Addr} {fd : FuncData} {k : Nat} (F : Fun K "is_space" "is_space" sSpace f fd) (T : Txt K mg aP tM tW tN) : FnOk P w K mg base CX0 (k + 1) f fd ["p", "n"] spSpace := by
  refine F.ok scSpace (fun vs H Q E h => ?_) (fun cdv A outer s H vs Q E hr h => ?_)
  · obtain ⟨p, n, rfl, _⟩ := h
    rfl
  · obtain ⟨p, n, rfl, q⟩ := h
    refine ⟨_, pss_one (ps_ret (pe_and (pe_cmpR op_in_seq (pv 0) (pe_glob (v := .ref aP) (by rfl) T.gP rfl) (by rfl)) (pe_one (pe_chain op_le op_le pe_int (pv 1) (pe_glob (v := .int 3) (by rfl) T.gM ⟨_, rfl⟩))))), ?_⟩
    refine ⟨iv p, rfl, aP, ivs [2, 3, 5, 7], rfl, .inr (T.hP H), rfl, rfl, _, rfl, ?_⟩
    show if inV (iv p) (ivs [2, 3, 5, 7]) = true then _ else _
    rw [in_primes]
    refine ite2 (fun e => ?_) (fun e => ?_)
    · refine ⟨iv n, rfl, 1, n, rfl, rfl, _, rfl, ite2 (fun e1 => ?_) (fun e1 => ?_)⟩
      · refine ⟨n, 3, rfl, rfl, ?_⟩
        have e2 : Kzt1.okField p n = decide ((n : Int) ≤ 3) := by
          have h1 : 1 ≤ n := by have := of_decide_eq_true e1; omega
          unfold Kzt1.okField
          rw [e, decide_eq_true h1, Bool.true_and, Bool.true_and]
          exact decide_eq_decide.mpr (by omega)
        show Q (.bl (decide ((n : Int) ≤ 3))) H
        rw [← e2]
        exact q
      · have h1 : ¬ 1 ≤ n := fun z => e1 (decide_eq_true (by omega))
        have e2 : Kzt1.okField p n = false := by
          unfold Kzt1.okField
          rw [decide_eq_false h1, Bool.and_false, Bool.false_and]
        show Q (.bl false) H
        rw [← e2]
        exact q
    · have e2 : Kzt1.okField p n = false := by
        unfold Kzt1.okField
        rw [Bool.eq_false_iff.mpr e, Bool.false_and, Bool.false_and]
      show Q (.bl false) H
      rw [← e2]
      exact q
end
end KM
namespace KM
open PySem PySem.Spec PyProof.Rows L2
open Kzt1 (coords total monos)
theorem ivs_nI (l : List Nat) : (nI l).map V.int = ivs l := by
  unfold nI ivs
  rw [List.map_map]
  rfl
theorem ivs_cons (x : Nat) (l : List Nat) : ivs (x :: l) = iv x :: ivs l := rfl
theorem cut_tail (t : List Nat) : cutV (ivs t) (some 1) none = ivs t.tail := by
  unfold cutV
  rw [show (some (1 : Int)) = some ((1 : Nat) : Int) from rfl, HT.sIx_nat, HT.sIx_none, ivs_length]
  cases t with
  | nil => rfl
  | cons x t =>
    rw [List.length_cons, Nat.min_eq_left (by omega), ivs_cons, List.drop_succ_cons, List.drop_zero, List.tail_cons]
    apply List.take_of_length_le
    rw [ivs_length]
    omega
/-- a list of lists: the objects rs hold the rows ts -/
def Rows (H : Hp) (rs : List V) (ts : List (List Nat)) : Prop := Paired (fun v t => ∃ r, v = V.ref r ∧ H r = some (.lst (ivs t))) rs ts
theorem Rows.same {H H' : Hp} {rs : List V} {ts : List (List Nat)} (h : Rows H rs ts) (s : Same H H') : Rows H' rs ts :=
  Paired.mono (fun v t ⟨r, e, hr⟩ => ⟨r, e, s _ _ hr⟩) h
theorem Rows.len {H : Hp} {rs : List V} {ts : List (List Nat)} (h : Rows H rs ts) : rs.length = ts.length := Paired.length h
theorem Rows.at {H : Hp} : ∀ {rs : List V} {ts : List (List Nat)} {i : Nat} {x : V}, Rows H rs ts → rs[i]? = some x → ∃ r t, x = V.ref r ∧ ts[i]? = some t ∧ H r = some (.lst (ivs t))
  | _, _, _, _, .nil, e => by simp at e
  | _, _, 0, _, .cons ⟨r, e1, e2⟩ _, e => by
    simp only [List.getElem?_cons_zero, Option.some.injEq] at e
    subst e
    exact ⟨r, _, e1, rfl, e2⟩
  | _, _, i + 1, _, .cons _ t, e => by
    rw [List.getElem?_cons_succ] at e ⊢
    exact Rows.at t e
theorem Rows.snoc {H : Hp} {rs : List V} {ts : List (List Nat)} {r : Addr} {t : List Nat} (h : Rows H rs ts) (hr : H r = some (.lst (ivs t))) : Rows H (rs ++ [V.ref r]) (ts ++ [t]) := Paired.snoc h ⟨r, rfl, hr⟩
theorem take_get {α : Type} {l : List α} {i : Nat} {x : α} (h : l[i]? = some x) : l.take (i + 1) = l.take i ++ [x] := by
  rw [List.take_add_one, h]
  rfl

def spDeg : Sp := fun vs H Q _ => ∃ (a : Addr) (t : List Nat), vs = [.ref a] ∧ H a = some (.lst (ivs t)) ∧ ∀ H' : Hp, Same H H' → Q (iv (total t.tail)) H'
def spRank : Sp := fun vs H Q _ => ∃ (a : Addr) (t : List Nat), vs = [.ref a] ∧ H a = some (.lst (ivs t)) ∧ t.length ≤ 1000 ∧ ∀ (H' : Hp) (q : Addr), Same H H' → H q = none → H' q = some (.lst ((rankI t.tail).map V.int)) → Q (.ref q) H'
section
variable {P : Program} {w : World} {K : PySem.W.Frag} {mg : Str → Option Value} {base : Heap} {aP : Addr} {tM tW tN : Nat}
theorem scDeg : FnScope ["term"] ["term"] (defScope sDeg) := ⟨rfl, rfl, rfl, by decide +kernel, rfl, by decide +kernel, by decide +kernel⟩
theorem ok_deg {f : Addr} {fd : FuncData} {k : Nat} (F : Fun K "degree_of_term" "degree_of_term" sDeg f fd) (ms : mg "sum" = none) : FnOk P w K mg base CX0 (k + 1) f fd ["term"] spDeg := by
  refine F.ok scDeg (fun vs H Q E h => ?_) (fun cdv A outer s H vs Q E hr h => ?_)
  · obtain ⟨a, t, rfl, _⟩ := h
    rfl
  · obtain ⟨a, t, rfl, ha, q⟩ := h
    refine ⟨_, pss_one (ps_ret (pe_callB (cr_sum rfl) (by rfl) ms (by decide +kernel) (pa_cons (pe_slice sl_list (pv 0) (po_some pe_int) po_none) pa_nil))), ?_⟩
    refine ⟨.ref a, rfl, 1, rfl, a, _, rfl, SqL.of ha, fun p np => ?_⟩
    refine ⟨p, nI t.tail, rfl, SqL.of (by rw [upd_same, cut_tail, ivs_nI]), ?_⟩
    rw [sum_nI]
    exact q _ (same_upd np)
theorem scRank : FnScope ["term"] ["term"] (defScope sRank) := ⟨rfl, rfl, rfl, by decide +kernel, rfl, by decide +kernel, by decide +kernel⟩
theorem ok_rank {f fD : Addr} {fd fdD : FuncData} {k : Nat} (F : Fun K "rank_of_term" "rank_of_term" sRank f fd)
    (FD : Fun K "degree_of_term" "degree_of_term" sDeg fD fdD) (bD : Binds K fdD ["term"] []) (gD : mg "degree_of_term" = some (.ref fD)) (ms : mg "sum" = none) : FnOk P w K mg base CX0 (k + 2) f fd ["term"] spRank := by
  have GD : FnOk P w K mg base CX0 (k + 1) fD fdD ["term"] spDeg := ok_deg FD ms
  refine F.ok scRank (fun vs H Q E h => ?_) (fun cdv A outer s H vs Q E hr h => ?_)
  · obtain ⟨a, t, rfl, _⟩ := h
    rfl
  · obtain ⟨a, t, rfl, ha, hlen, q⟩ := h
    refine ⟨_, pss_one (ps_ret (pe_op op_cat (pe_lst (pa_cons (pe_call GD hr (by rfl) gD FD.kp bD .nil pass0 (pa_cons (pv 0) pa_nil)) pa_nil)) (pe_slice sl_list (pv 0) (po_some pe_int) po_none))), ?_⟩
    refine ⟨.ref a, rfl, a, t, rfl, ha, fun H1 sm1 => ?_⟩
    refine ⟨by show 1 ≤ sizeLine; decide, fun l nl => ?_⟩
    have ha2 := (same_upd (o := .lst [iv (total t.tail)]) nl) _ _ (sm1 _ _ ha)
    refine ⟨.ref a, rfl, 1, rfl, a, _, rfl, SqL.of ha2, fun p np => ?_⟩
    have hpl : p ≠ l := ne_free upd_same np
    refine ⟨l, p, _, _, rfl, rfl, (by rw [upd_ne hpl.symm, upd_same]), upd_same, ?_, fun r nr => ?_⟩
    · rw [cut_tail, ivs_length, List.length_tail]
      show 1 + (t.length - 1) ≤ _
      exact Nat.le_of_lt (sz (by omega))
    · refine q _ r ((sm1.trans (same_upd nl)).trans ((same_upd np).trans (same_upd nr))) ?_ ?_
      · exact ((sm1.trans (same_upd nl)).trans (same_upd np)).free nr
      · rw [upd_same, cut_tail]
        unfold rankI
        rw [ivs_nI]
        rfl
end
end KM
namespace KM
open PySem PySem.Spec PyProof.Rows L2
open Kzt1 (coords total monos)
theorem Rows.upd {H : Hp} {rs : List V} {ts : List (List Nat)} {D : Addr} {o : HO} (h : Rows H rs ts) (hd : V.ref D ∉ rs) : Rows (upd H D o) rs ts := by
  unfold Rows at h ⊢
  induction h with
  | nil => exact .nil
  | @cons v t l1 l2 hv ht ih =>
    obtain ⟨r, rfl, hr⟩ := hv
    refine .cons ⟨r, rfl, ?_⟩ (ih fun z => hd (List.mem_cons_of_mem _ z))
    rw [upd_ne (fun e => hd (by rw [e]; exact List.mem_cons_self))]
    exact hr
def natV : V → Nat
  | .int i => i.toNat
  | _ => 0
/-- the row that stands at an object -/
def look (H : Hp) : V → List Nat
  | .ref r => match H r with
    | some (.lst l) => l.map natV
    | _ => []
  | _ => []
theorem natV_ivs (t : List Nat) : (ivs t).map natV = t := by
  unfold ivs
  rw [List.map_map]
  conv => rhs; rw [← List.map_id t]
  apply List.map_congr_left
  intro x _
  show ((x : Int)).toNat = x
  omega
theorem look_of {H : Hp} {r : Addr} {t : List Nat} (h : H r = some (.lst (ivs t))) : look H (.ref r) = t := by
  unfold look
  simp only [h, natV_ivs]
theorem Rows.looks {H : Hp} {rs : List V} {ts : List (List Nat)} (h : Rows H rs ts) : rs.map (look H) = ts ∧ ∀ x ∈ rs, ∃ r, x = V.ref r ∧ H r = some (.lst (ivs (look H x))) := by
  unfold Rows at h
  induction h with
  | nil => exact ⟨rfl, fun x hx => by cases hx⟩
  | @cons v t l1 l2 hv ht ih =>
    obtain ⟨r, rfl, hr⟩ := hv
    refine ⟨by rw [List.map_cons, look_of hr, ih.1], fun x hx => ?_⟩
    rcases List.mem_cons.mp hx with rfl | hx
    · exact ⟨r, rfl, by rw [look_of hr]; exact hr⟩
    · exact ih.2 x hx
theorem Rows.of_looks {H : Hp} : ∀ {rs : List V}, (∀ x ∈ rs, ∃ r, x = V.ref r ∧ H r = some (.lst (ivs (look H x)))) → Rows H rs (rs.map (look H))
  | [], _ => .nil
  | x :: rs, h => .cons (h x List.mem_cons_self) (Rows.of_looks fun y hy => h y (List.mem_cons_of_mem _ hy))
theorem Rows.filter {H : Hp} (f : List Nat → Bool) : ∀ {rs : List V} {ts : List (List Nat)}, Rows H rs ts → Rows H (rs.filter fun x => f (look H x)) (ts.filter f)
  | _, _, .nil => .nil
  | _, _, .cons (a := v) (b := t) hv ht => by
    have ih := Rows.filter f ht
    obtain ⟨r, rfl, hr⟩ := hv
    cases e : f t with
    | true =>
      rw [List.filter_cons_of_pos (by rw [look_of hr]; exact e), List.filter_cons_of_pos e]
      exact .cons ⟨r, rfl, hr⟩ ih
    | false =>
      rw [List.filter_cons_of_neg (by rw [look_of hr, e]; exact Bool.false_ne_true), List.filter_cons_of_neg (by rw [e]; exact Bool.false_ne_true)]
      exact ih
end KM
namespace KM
open PySem PySem.Spec PyProof.Rows L2
open Kzt1 (total)
def spHigh : Sp := fun vs H Q _ => ∃ (a : Addr) (rs : List V) (ts : List (List Nat)), vs = [.ref a] ∧ H a = some (.lst rs) ∧ Rows H rs ts ∧ ts.length ≤ 1000 ∧ ∀ (H' : Hp) (b : Addr) (rs' : List V), Same H H' → H b = none → H' b = some (.lst rs') → Rows H' rs' (hiT ts) → Q (.ref b) H'
theorem nI_append (a b : List Nat) : nI (a ++ b) = nI a ++ nI b := List.map_append ..
section
variable {P : Program} {w : World} {K : PySem.W.Frag} {mg : Str → Option Value} {base : Heap}
theorem scHigh : FnScope ["terms", "degree", "term"] ["terms"] (defScope sHigh) := ⟨rfl, rfl, rfl, by decide +kernel, rfl, by decide +kernel, by decide +kernel⟩
theorem ok_high {f fD : Addr} {fd fdD : FuncData} {k : Nat} (F : Fun K "highest_terms" "highest_terms" sHigh f fd)
    (FD : Fun K "degree_of_term" "degree_of_term" sDeg fD fdD) (bD : Binds K fdD ["term"] []) (gD : mg "degree_of_term" = some (.ref fD)) (ms : mg "sum" = none) (mx : mg "max" = none) : FnOk P w K mg base CX0 (k + 2) f fd ["terms"] spHigh := by
  have GD : FnOk P w K mg base CX0 (k + 1) fD fdD ["term"] spDeg := ok_deg FD ms
  refine F.ok scHigh (fun vs H Q E h => ?_) (fun cdv A outer s H vs Q E hr h => ?_)
  · obtain ⟨a, rs, ts, rfl, _⟩ := h
    rfl
  · obtain ⟨a, rs, ts, rfl, ha, hrs, hlen, q⟩ := h
    have hl := hrs.len
    refine ⟨_, pss_cons (ps_set (i := 1) scHigh.nd rfl (.inr rfl) (pe_callBK (cr_maxD rfl) (by rfl) mx (by decide +kernel) (pa_cons
          (pe_lc (own := [("term", 2)]) (g := gName 2) (tt := tYes) (te := tCall spDeg [] E0 (tCons (tVar 2) tNil)) (by rfl) scHigh.nd (pi_list (pv 0))
            (blkOk_by (own := [("term", 2)]) (N := ["terms", "degree", "term"]) (sc := defScope sHigh) (by decide +kernel))
            (fun _ _ _ _ _ => pg_name (i := 2) scHigh.nd rfl (.inl rfl)) (fun _ _ _ _ _ => pts_nil)
            (fun _ _ _ _ _ => pe_call GD hr (by rfl) gD FD.kp bD .nil pass0 (pa_cons (pv 2) pa_nil))) pa_nil) (pk_cons pe_int pk_nil)))
      (pss_one (ps_ret (pe_lc (own := [("term", 2)]) (g := gName 2) (tt := tTest (tOp rEq (tCall spDeg [] E0 (tCons (tVar 2) tNil)) (tVar 1))) (te := tVar 2) (by rfl) scHigh.nd (pi_list (pv 0))
            (blkOk_by (own := [("term", 2)]) (N := ["terms", "degree", "term"]) (sc := defScope sHigh) (by decide +kernel))
            (fun _ _ _ _ _ => pg_name (i := 2) scHigh.nd rfl (.inl rfl))
            (fun _ _ _ _ _ => pts_one (pt_cmpR op_eq (pe_call GD hr (by rfl) gD FD.kp bD .nil pass0 (pa_cons (pv 2) pa_nil)) (pv 1) (nomark _)))
            (fun _ _ _ _ _ => pv 2)))), ?_⟩
    refine ⟨.ref a, rfl, a, rfl, ⟨_, SqL.of ha⟩, fun D nD => ?_⟩
    refine lc_list (K := K) (a := a) (xs := rs) (fun j H3 => Same H H3 ∧ H3 D = some (.lst (ivs ((ts.take j).map fun t => total t.tail)))) ⟨same_upd nD, upd_same⟩ ?_ ?_ ?_
    · rintro j H3 _ ⟨sm3, _⟩
      exact sm3.seq (SqL.of ha)
    · rintro j x H3 hj ⟨sm3, hD⟩
      obtain ⟨r, t, rfl, ht, hrt⟩ := Rows.at hrs hj
      refine ⟨rfl, ?_⟩
      unfold tYes
      refine iteT ?_
      refine ⟨.ref r, rfl, r, t, rfl, sm3 _ _ hrt, fun H4 sm4 => ?_⟩
      refine ⟨_, sm4 _ _ hD, ?_, same_new (sm3.trans sm4) nD, ?_⟩
      · rw [ivs_length, List.length_map, List.length_take]
        exact sz (by omega)
      · rw [upd_same, take_get ht, List.map_append, ivs_append]
        rfl
    · rintro H3 ⟨sm3, hD⟩
      rw [hl, List.take_length] at hD
      refine ⟨D, nI (ts.map fun t => total t.tail), 0, rfl, rfl, SqL.of (by rw [ivs_nI]; exact hD), fun m hm => ?_⟩
      obtain rfl := topDeg_eq hm
      refine ⟨.ref a, rfl, a, rfl, ⟨_, SqL.of (sm3 _ _ ha)⟩, fun D2 nD2 => ?_⟩
      refine lc_list (K := K) (a := a) (xs := rs) (fun j H4 => Same H3 H4 ∧ ∃ rs2, H4 D2 = some (.lst rs2) ∧ Rows H3 rs2 ((ts.take j).filter fun t => total t.tail == topDeg ts)) ⟨same_upd nD2, [], upd_same, .nil⟩ ?_ ?_ ?_
      · rintro j H4 _ ⟨sm4, _⟩
        exact sm4.seq (SqL.of (sm3 _ _ ha))
      · rintro j x H4 hj ⟨sm4, rs2, hD2, hr2⟩
        obtain ⟨r, t, rfl, ht, hrt⟩ := Rows.at hrs hj
        have hlen2 := hr2.len
        have hle : rs2.length ≤ ts.length := by
          rw [hlen2]
          refine Nat.le_trans (List.length_filter_le _ _) ?_
          rw [List.length_take]
          omega
        refine ⟨rfl, ?_⟩
        refine ⟨.ref r, rfl, r, t, rfl, sm4 _ _ (sm3 _ _ hrt), fun H5 sm5 => ⟨iv (topDeg ts), rfl, rfl, _, rfl, ?_⟩⟩
        show if decide (iv (total t.tail) = iv (topDeg ts)) = true then _ else _
        rw [decide_iv]
        have hD5 := sm5 _ _ hD2
        by_cases hc : total t.tail = topDeg ts
        · rw [decide_eq_true hc]
          refine iteT ?_
          refine ⟨.ref r, rfl, rs2, hD5, sz (by omega), same_new (sm4.trans sm5) nD2, rs2 ++ [.ref r], upd_same, ?_⟩
          rw [take_get ht, List.filter_append]
          have e2 : [t].filter (fun t => total t.tail == topDeg ts) = [t] := by simp [hc]
          rw [e2]
          exact Rows.snoc hr2 (sm3 _ _ hrt)
        · rw [decide_eq_false hc]
          refine iteF ?_
          refine ⟨sm4.trans sm5, rs2, hD5, ?_⟩
          rw [take_get ht, List.filter_append]
          have e2 : [t].filter (fun t => total t.tail == topDeg ts) = [] := by simp [hc]
          rw [e2, List.append_nil]
          exact hr2
      · rintro H4 ⟨sm4, rs2, hD2, hr2⟩
        rw [hl, List.take_length] at hr2
        exact q H4 D2 rs2 (sm3.trans sm4) (sm3.free nD2) hD2 (hr2.same sm4)
end
end KM
namespace KM
open PySem PySem.Spec PyProof.Rows L2
open Kzt1 (total)
theorem fits_long {i : Int} (h1 : 0 ≤ i) (h2 : i ≤ 5000) : Builtin.Range.rangeFitsLong i = true := by
  unfold Builtin.Range.rangeFitsLong
  rw [Bool.and_eq_true]
  exact ⟨decide_eq_true (by omega), decide_eq_true (by omega)⟩
theorem rgC_c {m : Nat} (hm : m ≤ 400) (c : Int) (hc : c = 2 ∨ c = 3 ∨ c = 4) : RgC 0 ((m : Int) * c) c m := by
  have e : Builtin.Range.rangeSize 0 ((m : Int) * c) c = (m : Int) := by
    unfold Builtin.Range.rangeSize
    rcases hc with rfl | rfl | rfl
    all_goals
      rw [if_pos (by decide)]
      split <;> omega
  refine ⟨by omega, by omega, ?_, e⟩
  unfold Builtin.Range.small
  rw [e]
  rcases hc with rfl | rfl | rfl
  all_goals
    rw [if_pos (by decide), fits_long (by omega) (by omega), fits_long (by omega) (by omega), fits_long (by omega) (by omega), fits_long (by omega) (by omega), fits_long (by omega) (by omega), Bool.or_true]
    rfl

theorem rgC_n {n m : Nat} {f : List Nat} (hn : n = 1 ∨ n = 2 ∨ n = 3) (hm : m ≤ 400) (hf : f.length = m * (n + 1)) : RgC 0 ((f.length : Nat) : Int) ((n : Int) + 1) m := by
  rw [hf, Int.natCast_mul]
  exact rgC_c hm _ (by omega)
theorem cut_mid (f : List Nat) (a b : Nat) (h : a + b ≤ f.length) : cutV (ivs f) (some (a : Int)) (some ((a + b : Nat) : Int)) = ivs ((f.drop a).take b) := by
  unfold cutV
  rw [HT.sIx_nat, HT.sIx_nat, ivs_length, Nat.min_eq_left (show a ≤ f.length by omega), Nat.min_eq_left h, Nat.add_sub_cancel_left]
  unfold ivs
  rw [← List.map_drop, ← List.map_take]
theorem rowsOf_take (n m j : Nat) (f : List Nat) (h : j < m) : (rowsOf n (j + 1) f) = rowsOf n j f ++ [(f.drop (j * (n + 1))).take (n + 1)] := by
  unfold rowsOf
  rw [List.range_succ, List.map_append]
  rfl
def spTor (K : PySem.W.Frag) : Sp := fun vs H Q _ => ∃ (n : Nat) (a : Addr) (f : List Nat) (m : Nat), vs = [iv n, .ref a] ∧ SqL K H a (ivs f) ∧ (n = 1 ∨ n = 2 ∨ n = 3) ∧ f.length = m * (n + 1) ∧ f.length ≤ 400 ∧ ∀ (H' : Hp) (b : Addr) (rs : List V), Same H H' → H b = none → H' b = some (.lst rs) → Rows H' rs (rowsOf n m f) → Q (.ref b) H'
def spTerm : Sp := fun vs H Q _ => ∃ (p : Nat) (a : Addr) (c : Nat) (e : List Nat), vs = [iv p, .ref a] ∧ H a = some (.lst (ivs (c :: e))) ∧ e.length ≤ 100 ∧ ∀ H' : Hp, Same H H' → Q (.bl (okT p (c :: e))) H'
section
variable {P : Program} {w : World} {K : PySem.W.Frag} {mg : Str → Option Value} {base : Heap} {aP : Addr} {tM tW tN tT : Nat}
theorem scTor : FnScope ["n", "f", "start"] ["n", "f"] (defScope sTor) := ⟨rfl, rfl, rfl, by decide +kernel, rfl, by decide +kernel, by decide +kernel⟩
theorem ok_tor {f : Addr} {fd : FuncData} {k : Nat} (F : Fun K "terms_of_row" "terms_of_row" sTor f fd) (ml : mg "len" = none) (T : Txt K mg aP tM tW tN) : FnOk P w K mg base CX0 (k + 1) f fd ["n", "f"] (spTor K) := by
  refine F.ok scTor (fun vs H Q E h => ?_) (fun cdv A outer s H vs Q E hr h => ?_)
  · obtain ⟨n, a, f, m, rfl, _⟩ := h
    rfl
  · obtain ⟨n, a, f, m, rfl, ha, hn, hf, hlen, q⟩ := h
    have hmf : m ≤ f.length := by
      rw [hf]
      exact Nat.le_mul_of_pos_right _ (by omega)
    refine ⟨_, pss_one (ps_ret (pe_lc (own := [("start", 2)]) (g := gName 2) (tt := tYes) (te := tSl (rSlL K) (tVar 1) (tPart (tVar 2)) (tPart (tOp (rI0 fun i j => .int (i + j)) (tOp (rI0 fun i j => .int (i + j)) (tVar 2) (tVar 0)) (tC (.int 1))))) (by rfl) scTor.nd
        (pi_range3 (by rfl) T.range (pa_cons pe_int (pa_cons (pe_callB call_len_seq (by rfl) ml PySem.boot_len (pa_cons (pv 1) pa_nil)) (pa_cons (pe_op op_add (pv 0) pe_int) pa_nil))))
        (blkOk_by (own := [("start", 2)]) (N := ["n", "f", "start"]) (sc := defScope sTor) (by decide +kernel))
        (fun _ _ _ _ _ => pg_name (i := 2) scTor.nd rfl (.inl rfl)) (fun _ _ _ _ _ => pts_nil)
        (fun _ _ _ _ _ => pe_slice sl_list (pv 1) (po_some (pv 2)) (po_some (pe_op op_add (pe_op op_add (pv 2) (pv 0)) pe_int))))), ?_⟩
    refine ⟨.ref a, rfl, a, ivs f, rfl, .inl ha, iv n, rfl, _, _, rfl, rfl, 0, ((f.length : Nat) : Int), (n : Int) + 1, m, ?_, rgC_n hn (by omega) hf, fun D nD => ?_⟩
    · rw [ivs_length]
    refine lc_it (walk_rangeC (lo := 0) (c := (n : Int) + 1) (n := m)) (fun j H3 => Same H H3 ∧ ∃ rs, H3 D = some (.lst rs) ∧ V.ref D ∉ rs ∧ Rows H3 rs (rowsOf n j f)) ⟨same_upd nD, [], upd_same, by simp, .nil⟩ (fun _ _ _ _ => trivial) ?_ ?_
    · rintro j x H3 H3' hj ⟨sm3, rs, hD, hne, hrs⟩ ⟨rfl, rfl⟩
      have hl := hrs.len
      unfold rowsOf at hl
      rw [List.length_map, List.length_range] at hl
      have hjm : j * (n + 1) + (n + 1) ≤ f.length := by
        have : (j + 1) * (n + 1) ≤ m * (n + 1) := Nat.mul_le_mul_right _ hj
        rw [Nat.succ_mul] at this
        omega
      have ej : V.int ((0 : Int) + (j : Nat) * ((n : Int) + 1)) = iv (j * (n + 1)) := by
        rw [Int.zero_add]
        show _ = V.int ((j * (n + 1) : Nat) : Int)
        rw [Int.natCast_mul]
        rfl
      show gName 2 (V.int ((0 : Int) + (j : Nat) * ((n : Int) + 1))) _ _ _
      rw [ej]
      refine ⟨rfl, ?_⟩
      unfold tYes
      refine iteT ?_
      refine ⟨.ref a, rfl, iv (j * (n + 1)), rfl, _, rfl, iv (j * (n + 1)), rfl, iv n, rfl, _, _, rfl, rfl, _, _, rfl, rfl, _, rfl, a, _, rfl, sm3.seq ha, fun r nr => ?_⟩
      have hrD : r ≠ D := ne_free hD nr
      have e2 : cutV (ivs f) (some ((j * (n + 1) : Nat) : Int)) (some (((j * (n + 1) : Nat) : Int) + (n : Int) + 1)) = ivs ((f.drop (j * (n + 1))).take (n + 1)) := by
        rw [← cut_mid f _ _ hjm]
        congr 2
      have nd2 : V.ref D ∉ rs ++ [V.ref r] := fun hm => by
        rcases List.mem_append.mp hm with hm | hm
        · exact hne hm
        · exact hrD (V.ref.inj (List.mem_singleton.mp hm)).symm
      refine ⟨rs, by rw [upd_ne hrD.symm]; exact hD, sz (by omega), same_new (sm3.trans (same_upd nr)) nD, rs ++ [.ref r], upd_same, nd2, ?_⟩
      rw [rowsOf_take n m j f hj]
      refine Rows.upd (Rows.snoc (hrs.same (same_upd nr)) ?_) nd2
      rw [upd_same]
      exact congrArg (fun z => some (HO.lst z)) e2
    · rintro H3 ⟨sm3, rs, hD, _, hrs⟩
      exact q H3 D rs sm3 nD hD hrs
theorem scTerm : FnScope ["p", "term", "times"] ["p", "term"] (defScope sTerm) := ⟨rfl, rfl, rfl, by decide +kernel, rfl, by decide +kernel, by decide +kernel⟩
theorem ok_term {f : Addr} {fd : FuncData} {k : Nat} (F : Fun K "is_term" "is_term" sTerm f fd) (ma : mg "all" = none) (gT : mg "MOST_TIMES" = some (.int 12 tT)) : FnOk P w K mg base CX0 (k + 1) f fd ["p", "term"] spTerm := by
  refine F.ok scTerm (fun vs H Q E h => ?_) (fun cdv A outer s H vs Q E hr h => ?_)
  · obtain ⟨p, a, c, e, rfl, _⟩ := h
    rfl
  · obtain ⟨p, a, c, e, rfl, ha, hlen, q⟩ := h
    refine ⟨_, pss_one (ps_ret (pe_and (pe_chain op_le op_lt pe_int (pe_ix ix_list (pv 1) pe_int (fun _ _ => rfl)) (pv 0)) (pe_one (pe_callB (cr_all rfl) (by rfl) ma (by decide +kernel) (pa_cons
        (pe_lc (own := [("times", 2)]) (g := gName 2) (tt := tYes) (te := tOp (rI0 fun i j => .bl (decide (i ≤ j))) (tVar 2) (tC (.int 12))) (by rfl) scTerm.nd (pi_list (pe_slice sl_list (pv 1) (po_some pe_int) po_none))
          (blkOk_by (own := [("times", 2)]) (N := ["p", "term", "times"]) (sc := defScope sTerm) (by decide +kernel))
          (fun _ _ _ _ _ => pg_name (i := 2) scTerm.nd rfl (.inl rfl)) (fun _ _ _ _ _ => pts_nil)
          (fun _ _ _ _ _ => pe_cmpR op_le (pv 2) (pe_glob (v := .int 12) (by rfl) gT ⟨_, rfl⟩) (nomark _))) pa_nil))))), ?_⟩
    have hq : okT p (c :: e) = (decide (1 ≤ c) && decide (c < p) && e.all fun x => decide (x ≤ 12)) := rfl
    refine ⟨.ref a, rfl, a, _, 0, iv c, rfl, rfl, SqL.of ha, atI_nat (by rfl), 1, (c : Int), rfl, rfl, _, rfl, ?_⟩
    by_cases h1 : 1 ≤ c
    · rw [show decide ((1 : Int) ≤ (c : Int)) = true from decide_eq_true (by omega)]
      refine iteT ?_
      refine ⟨iv p, rfl, _, _, rfl, rfl, _, rfl, ?_⟩
      show if decide ((c : Int) < (p : Int)) = true then _ else _
      rw [show decide ((c : Int) < (p : Int)) = decide (c < p) from decide_eq_decide.mpr (by omega)]
      by_cases h2 : c < p
      · rw [decide_eq_true h2]
        refine iteT ?_
        refine ⟨.ref a, rfl, 1, rfl, a, _, rfl, SqL.of ha, fun b nb => ?_⟩
        rw [cut_tail]
        have hb : upd H b (.lst (ivs e)) b = some (.lst (ivs e)) := upd_same
        refine ⟨b, rfl, ⟨_, SqL.of hb⟩, fun D nD => ?_⟩
        refine lc_list (K := K) (a := b) (xs := ivs e) (fun j H3 => Same (upd H b (.lst (ivs e))) H3 ∧ H3 D = some (.lst (((e.take j).map fun x => decide (x ≤ 12)).map V.bl))) ⟨same_upd nD, upd_same⟩ ?_ ?_ ?_
        · rintro j H3 _ ⟨sm3, _⟩
          exact sm3.seq (SqL.of hb)
        · rintro j x H3 hj ⟨sm3, hD⟩
          obtain ⟨y, hy, rfl⟩ := ivs_at hj
          refine ⟨rfl, ?_⟩
          unfold tYes
          refine iteT ?_
          refine ⟨iv y, rfl, _, _, rfl, rfl, _, hD, ?_, same_new sm3 nD, ?_⟩
          · rw [List.length_map, List.length_map, List.length_take]
            exact sz (by omega)
          · rw [upd_same, take_get hy, List.map_append, List.map_append]
            show some (HO.lst (_ ++ [V.bl (decide ((y : Int) ≤ 12))])) = _
            rw [show decide ((y : Int) ≤ 12) = decide (y ≤ 12) from decide_eq_decide.mpr (by omega)]
            rfl
        · rintro H3 ⟨sm3, hD⟩
          rw [ivs_length, List.take_length] at hD
          refine ⟨D, e.map fun x => decide (x ≤ 12), rfl, SqL.of hD, ?_⟩
          have q' := q H3 ((same_upd nb).trans sm3)
          rw [hq, decide_eq_true h1, decide_eq_true h2, Bool.true_and, Bool.true_and] at q'
          rw [List.all_map]
          exact q'
      · rw [decide_eq_false h2]
        refine iteF ?_
        have q' := q H (Same.refl _)
        rw [hq, decide_eq_false h2, Bool.and_false, Bool.false_and] at q'
        exact q'
    · rw [show decide ((1 : Int) ≤ (c : Int)) = false from decide_eq_false (by omega)]
      refine iteF ?_
      refine ⟨_, rfl, iteF ?_⟩
      have q' := q H (Same.refl _)
      rw [hq, decide_eq_false h1, Bool.false_and, Bool.false_and] at q'
      exact q'
end
end KM
namespace KM
open PySem PySem.Spec PyProof.Rows L2
open Kzt1 (total)
def spPoly (K : PySem.W.Frag) : Sp := fun vs H Q _ => ∃ (p n : Nat) (a : Addr) (f : List Nat), vs = [iv p, iv n, .ref a] ∧ SqL K H a (ivs f) ∧ (n = 1 ∨ n = 2 ∨ n = 3) ∧ f.length ≤ 400 ∧ ∀ H' : Hp, Same H H' → Q (.bl (okRow p n f)) H'
theorem rowsOf_get {n m : Nat} {f : List Nat} {i : Nat} {t : List Nat} (hf : f.length = m * (n + 1)) (h : (rowsOf n m f)[i]? = some t) : ∃ c e, t = c :: e ∧ e.length = n := by
  rw [rowsOf_cuts n m f hf, List.getElem?_map] at h
  cases e : (cuts n m f)[i]? with
  | none =>
    rw [e] at h
    cases h
  | some u =>
    rw [e] at h
    have h2 := Option.some.inj h
    exact ⟨u.c, u.e, h2.symm, cuts_e n m f hf u (List.mem_of_getElem? e)⟩
section
variable {P : Program} {w : World} {K : PySem.W.Frag} {mg : Str → Option Value} {base : Heap} {aP : Addr} {tM tW tN tT : Nat}
theorem scPoly : FnScope ["p", "n", "f", "last", "term", "rank"] ["p", "n", "f"] (defScope sPoly) := ⟨rfl, rfl, rfl, by decide +kernel, rfl, by decide +kernel, by decide +kernel⟩
theorem ok_poly {f fT fD fR fI : Addr} {fd fdT fdD fdR fdI : FuncData} {k : Nat} (F : Fun K "is_polynomial" "is_polynomial" sPoly f fd)
    (FT : Fun K "terms_of_row" "terms_of_row" sTor fT fdT) (bT : Binds K fdT ["n", "f"] []) (gT : mg "terms_of_row" = some (.ref fT))
    (FD : Fun K "degree_of_term" "degree_of_term" sDeg fD fdD) (bD : Binds K fdD ["term"] []) (gD : mg "degree_of_term" = some (.ref fD))
    (FR : Fun K "rank_of_term" "rank_of_term" sRank fR fdR) (bR : Binds K fdR ["term"] []) (gR : mg "rank_of_term" = some (.ref fR))
    (FI : Fun K "is_term" "is_term" sTerm fI fdI) (bI : Binds K fdI ["p", "term"] []) (gI : mg "is_term" = some (.ref fI))
    (ms : mg "sum" = none) (ma : mg "all" = none) (ml : mg "len" = none) (g12 : mg "MOST_TIMES" = some (.int 12 tT)) (T : Txt K mg aP tM tW tN) : FnOk P w K mg base CX0 (k + 3) f fd ["p", "n", "f"] (spPoly K) := by
  have GT : FnOk P w K mg base CX0 (k + 2) fT fdT ["n", "f"] (spTor K) := ok_tor FT ml T
  have GR : FnOk P w K mg base CX0 (k + 2) fR fdR ["term"] spRank := ok_rank FR FD bD gD ms
  have GI : FnOk P w K mg base CX0 (k + 2) fI fdI ["p", "term"] spTerm := ok_term FI ma g12
  refine F.ok scPoly (fun vs H Q E h => ?_) (fun cdv A outer s H vs Q E hr h => ?_)
  · obtain ⟨p, n, a, f, rfl, _⟩ := h
    rfl
  · obtain ⟨p, n, a, f, rfl, ha, hn, hlen, q⟩ := h
    refine ⟨_, pss_cons (ps_if (pt_cmpR op_ne (pe_op op_mod (pe_callB call_len_seq (by rfl) ml PySem.boot_len (pa_cons (pv 2) pa_nil)) (pe_op op_add (pv 1) pe_int)) pe_int (nomark _)) (pss_one (ps_ret pe_bl)) pss_nil)
      (pss_cons (ps_set (i := 3) scPoly.nd rfl (.inl rfl) (pe_lst pa_nil))
      (pss_cons (ps_for PassesOwn.never rfl (pi_list (pe_call GT hr (by rfl) gT FT.kp bT .nil pass0 (pa_cons (pv 1) (pa_cons (pv 2) pa_nil)))) (pg_name (i := 4) scPoly.nd rfl (.inl rfl))
        (pss_cons (ps_set (i := 5) scPoly.nd rfl (.inl rfl) (pe_call GR hr (by rfl) gR FR.kp bR .nil pass0 (pa_cons (pv 4) pa_nil)))
        (pss_cons (ps_if (PW.pt (pw_or (pt_not (pt_val (pe_call GI hr (by rfl) gI FI.kp bI .nil pass0 (pa_cons (pv 0) (pa_cons (pv 4) pa_nil))))) (pw_or1 (pt_not (pt_cmpR (op_ltL hr.units) (pv 3) (pv 5) (nomark _)))))) (pss_one (ps_ret pe_bl)) pss_nil)
        (pss_one (ps_set (i := 3) scPoly.nd rfl (.inl rfl) (pv 5))))))
      (pss_one (ps_ret pe_bl)))), ?_⟩
    refine ⟨.ref a, rfl, a, ivs f, rfl, .inl ha, iv n, rfl, _, _, rfl, rfl, _, _, rfl, rfl, by omega, rfl, _, rfl, ?_⟩
    have em : V.int ((((ivs f).length : Nat) : Int) % ((n : Int) + 1)) = iv (f.length % (n + 1)) := by
      rw [ivs_length]
      exact congrArg V.int (Int.natCast_emod f.length (n + 1)).symm
    show if (!decide (V.int ((((ivs f).length : Nat) : Int) % ((n : Int) + 1)) = iv 0)) = true then _ else _
    rw [em, decide_iv]
    by_cases hm : f.length % (n + 1) = 0
    · rw [decide_eq_true hm]
      refine iteF ?_
      have hf := div_len hm
      have hok : okRow p n f = okUp p [] (rowsOf n (f.length / (n + 1)) f) := by
        unfold okRow
        rw [decide_eq_true hm, Bool.true_and]
      generalize f.length / (n + 1) = m at hf hok
      refine ⟨Nat.zero_le _, fun l nl => ?_⟩
      refine ⟨iv n, rfl, .ref a, rfl, n, a, f, m, rfl, (same_upd nl).seq ha, hn, hf, hlen, fun H1 b rs sm1 nb hb hrs => ?_⟩
      refine ⟨b, rfl, ⟨_, SqL.of hb⟩, for_list (K := K) (a := b) (xs := rs) (fun i σ H' => ∃ (y4 y5 : Option V) (l : Addr) (ls : List Int), σ = [some (iv p), some (iv n), some (.ref a), some (.ref l), y4, y5] ∧ Same H1 H' ∧ H' l = some (.lst (ls.map V.int)) ∧ okUp p ls ((rowsOf n m f).drop i) = okRow p n f)
        ⟨none, none, l, [], rfl, Same.refl _, sm1 _ _ upd_same, hok.symm⟩ ?_ ?_ ?_⟩
      · rintro i σ H' _ ⟨_, _, _, _, _, sm, _⟩
        exact sm.seq (SqL.of hb)
      · rintro i x σ H' hi ⟨y4, y5, l', ls, rfl, sm, hl', ho⟩
        obtain ⟨r, t, rfl, ht, hrt⟩ := Rows.at hrs hi
        obtain ⟨c, e, rfl, hel⟩ := rowsOf_get hf ht
        obtain ⟨hlt, et⟩ := List.getElem?_eq_some_iff.mp ht
        rw [List.drop_eq_getElem_cons hlt, et] at ho
        have ho' : (okT p (c :: e) && decide (ls < rankI e) && okUp p (rankI e) ((rowsOf n m f).drop (i + 1))) = okRow p n f := ho
        have bad : ∀ H2, Same H H2 → okRow p n f = false → Q (.bl false) H2 := fun H2 sm2 z => by
          have := q H2 sm2
          rw [z] at this
          exact this
        refine ⟨.ref r, rfl, r, c :: e, rfl, sm _ _ hrt, by show e.length + 1 ≤ 1000; omega, fun H2 b2 sm2 nb2 hb2 => ?_⟩
        have hb2' : H2 b2 = some (.lst ((rankI e).map V.int)) := hb2
        refine ⟨iv p, rfl, .ref r, rfl, p, r, c, e, rfl, sm2 _ _ (sm _ _ hrt), by omega, fun H3 sm3 => ⟨_, rfl, ?_⟩⟩
        have smA : Same H H3 := ((same_upd nl).trans sm1).trans (sm.trans (sm2.trans sm3))
        cases h1 : okT p (c :: e) with
        | false =>
          rw [h1] at ho'
          refine iteT ?_
          refine iteT ?_
          exact bad _ smA (by rw [← ho']; rfl)
        | true =>
          rw [h1, Bool.true_and] at ho'
          refine iteF ?_
          refine ⟨.ref l', rfl, .ref b2, rfl, l', b2, ls, rankI e, rfl, rfl, SqL.of (sm3 _ _ (sm2 _ _ hl')), SqL.of (sm3 _ _ hb2'), _, rfl, ?_⟩
          cases h2 : decide (ls < rankI e) with
          | false =>
            rw [h2] at ho'
            refine iteT ?_
            exact bad _ smA (by rw [← ho']; rfl)
          | true =>
            rw [h2, Bool.true_and] at ho'
            refine iteF ?_
            exact ⟨.ref b2, rfl, some (.ref r), some (.ref b2), b2, rankI e, rfl, sm.trans (sm2.trans sm3), sm3 _ _ hb2', ho'⟩
      · rintro σ H' ⟨y4, y5, l', ls, rfl, sm, hl', ho⟩
        rw [hrs.len, List.drop_length] at ho
        have := q H' (((same_upd nl).trans sm1).trans sm)
        rw [← ho] at this
        exact this
    · rw [decide_eq_false hm]
      refine iteT ?_
      have e : okRow p n f = false := by
        unfold okRow
        rw [decide_eq_false hm, Bool.false_and]
      have := q H (Same.refl _)
      rw [e] at this
      exact this
end
end KM
namespace KM
open PySem PySem.Spec PyProof.Rows L2
open Kzt1 (total)
def spTop (K : PySem.W.Frag) : Sp := fun vs H Q _ => ∃ (p n : Int) (a : Addr) (f : List Int), vs = [.int p, .int n, .ref a] ∧ 0 ≤ p ∧ 0 ≤ n ∧ SqL K H a (f.map V.int) ∧ f.length ≤ 400 ∧ (∀ z ∈ f, 0 ≤ z) ∧ ∀ (H' : Hp) (r : Addr), H' r = some (.lst ((PyKzt2.top p n f).map V.int)) → Q (.ref r) H'
theorem ivs_ints (s : List Nat) : (s.map (fun (y : Nat) => (y : Int))).map V.int = ivs s := by
  rw [List.map_map]
  rfl
theorem top_at (p n : Nat) (s : List Nat) : PyKzt2.top p n (s.map fun (y : Nat) => (y : Int)) = (Kzt2.answer (.top p n s)).value :: (Kzt2.answer (.top p n s)).nums := by
  show ((Kzt2.answer (.top p n ((s.map fun (y : Nat) => (y : Int)).map Int.toNat))).value :: (Kzt2.answer (.top p n ((s.map fun (y : Nat) => (y : Int)).map Int.toNat))).nums) = _
  rw [natsOf_map]
theorem top_no (p n : Nat) (s : List Nat) (h : Kzt1.okField p n = false ∨ okRow p n s = false) : PyKzt2.top p n (s.map fun (y : Nat) => (y : Int)) = [-22] := by
  rw [top_at]
  unfold Kzt2.answer
  dsimp only
  cases h1 : Kzt1.okField p n with
  | false =>
    rw [if_pos rfl]
    rfl
  | true =>
    rw [if_neg Bool.noConfusion]
    unfold Kzt1.withPoly
    rcases h with h | h
    · rw [h1] at h
      cases h
    · rw [okRow_read, h, if_neg Bool.false_ne_true]
      rfl
/-- the highest terms, as rows -/
def hiRows (n : Nat) (s : List Nat) : List (List Nat) := hiT (rowsOf n (s.length / (n + 1)) s)
theorem top_in (p n : Nat) (s : List Nat) (h1 : Kzt1.okField p n = true) (h2 : okRow p n s = true) : PyKzt2.top p n (s.map fun (y : Nat) => (y : Int)) = (((hiRows n s).length :: (hiRows n s).flatten).map fun (y : Nat) => (y : Int)) := by
  rw [top_at]
  unfold Kzt2.answer
  dsimp only
  rw [if_neg (by rw [h1]; exact Bool.noConfusion)]
  unfold Kzt1.withPoly
  rw [okRow_read, h2, if_pos rfl]
  have hm : s.length % (n + 1) = 0 := by
    unfold okRow at h2
    rw [Bool.and_eq_true, decide_eq_true_eq] at h2
    exact h2.1
  have e : hiRows n s = (Kzt2.top (cuts n (s.length / (n + 1)) s)).map tRow := by
    unfold hiRows
    rw [rowsOf_cuts n _ s (div_len hm), hiT_top]
  rw [e, List.length_map, ← written_rows]
  rfl
theorem flat_len {n : Nat} {ts : List (List Nat)} (h : ∀ t ∈ ts, t.length = n) : ts.flatten.length = ts.length * n := by
  induction ts with
  | nil => simp
  | cons t ts ih =>
    rw [List.flatten_cons, List.length_append, ih (fun u hu => h u (List.mem_cons_of_mem _ hu)), h t List.mem_cons_self, List.length_cons, Nat.succ_mul]
    omega
theorem hiRows_len {n : Nat} {s : List Nat} (hm : s.length % (n + 1) = 0) (hs : s.length ≤ 400) : (hiRows n s).length ≤ 400 ∧ ∀ t ∈ hiRows n s, t.length = n + 1 := by
  have hf := div_len hm
  have hmf : s.length / (n + 1) ≤ s.length := Nat.div_le_self _ _
  refine ⟨?_, fun t ht => ?_⟩
  · unfold hiRows hiT
    refine Nat.le_trans (List.length_filter_le _ _) ?_
    unfold rowsOf
    rw [List.length_map, List.length_range]
    omega
  · obtain ⟨i, hi⟩ := List.mem_iff_getElem?.mp (List.mem_filter.mp ht).1
    obtain ⟨c, e, rfl, he⟩ := rowsOf_get hf hi
    rw [List.length_cons, he]
section
variable {P : Program} {w : World} {K : PySem.W.Frag} {mg : Str → Option Value} {base : Heap} {aP : Addr} {tM tW tN tT : Nat}
theorem scTop : FnScope ["p", "n", "f", "highest", "answer", "term"] ["p", "n", "f"] (defScope sTop) := ⟨rfl, rfl, rfl, by decide +kernel, rfl, by decide +kernel, by decide +kernel⟩
theorem ok_top {f fS fT fD fR fI fP fH : Addr} {fd fdS fdT fdD fdR fdI fdP fdH : FuncData} (F : Fun K "top" "top" sTop f fd)
    (FS : Fun K "is_space" "is_space" sSpace fS fdS) (bS : Binds K fdS ["p", "n"] []) (gS : mg "is_space" = some (.ref fS))
    (FT : Fun K "terms_of_row" "terms_of_row" sTor fT fdT) (bT : Binds K fdT ["n", "f"] []) (gT : mg "terms_of_row" = some (.ref fT))
    (FD : Fun K "degree_of_term" "degree_of_term" sDeg fD fdD) (bD : Binds K fdD ["term"] []) (gD : mg "degree_of_term" = some (.ref fD))
    (FR : Fun K "rank_of_term" "rank_of_term" sRank fR fdR) (bR : Binds K fdR ["term"] []) (gR : mg "rank_of_term" = some (.ref fR))
    (FI : Fun K "is_term" "is_term" sTerm fI fdI) (bI : Binds K fdI ["p", "term"] []) (gI : mg "is_term" = some (.ref fI))
    (FP : Fun K "is_polynomial" "is_polynomial" sPoly fP fdP) (bP : Binds K fdP ["p", "n", "f"] []) (gP : mg "is_polynomial" = some (.ref fP))
    (FH : Fun K "highest_terms" "highest_terms" sHigh fH fdH) (bH : Binds K fdH ["terms"] []) (gH : mg "highest_terms" = some (.ref fH))
    (g12 : mg "MOST_TIMES" = some (.int 12 tT)) (ms : mg "sum" = none) (ma : mg "all" = none) (ml : mg "len" = none) (mx : mg "max" = none) (T : Txt K mg aP tM tW 0) : FnOk P w K mg base CX0 4 f fd ["p", "n", "f"] (spTop K) := by
  have GS : FnOk P w K mg base CX0 3 fS fdS ["p", "n"] spSpace := ok_space FS T
  have GP : FnOk P w K mg base CX0 3 fP fdP ["p", "n", "f"] (spPoly K) := ok_poly FP FT bT gT FD bD gD FR bR gR FI bI gI ms ma ml g12 T
  have GT : FnOk P w K mg base CX0 3 fT fdT ["n", "f"] (spTor K) := ok_tor FT ml T
  have GH : FnOk P w K mg base CX0 3 fH fdH ["terms"] spHigh := ok_high FH FD bD gD ms mx
  refine F.ok scTop (fun vs H Q E h => ?_) (fun cdv A outer s H vs Q E hr h => ?_)
  · obtain ⟨p, n, a, f, rfl, _⟩ := h
    rfl
  · obtain ⟨p, n, a, f, rfl, hp0, hn0, hs, hlen, hz, q⟩ := h
    obtain ⟨p, rfl⟩ := Int.eq_ofNat_of_zero_le hp0
    obtain ⟨n, rfl⟩ := Int.eq_ofNat_of_zero_le hn0
    obtain ⟨f, rfl⟩ := nat_list f hz
    rw [List.length_map] at hlen
    rw [ivs_ints] at hs
    refine ⟨_, pss_cons (ps_if (PW.pt (pw_or (pt_not (pt_val (pe_call GS hr (by rfl) gS FS.kp bS .nil pass0 (pa_cons (pv 0) (pa_cons (pv 1) pa_nil))))) (pw_or1 (pt_not (pt_val (pe_call GP hr (by rfl) gP FP.kp bP .nil pass0 (pa_cons (pv 0) (pa_cons (pv 1) (pa_cons (pv 2) pa_nil)))))))))
        (pss_one (ps_ret (pe_lst (pa_cons (pe_glob (v := .int (-22)) (by rfl) T.gW ⟨_, rfl⟩) pa_nil)))) pss_nil)
      (pss_cons (ps_set (i := 3) scTop.nd rfl (.inl rfl) (pe_call GH hr (by rfl) gH FH.kp bH .nil pass0 (pa_cons (pe_call GT hr (by rfl) gT FT.kp bT .nil pass0 (pa_cons (pv 1) (pa_cons (pv 2) pa_nil))) pa_nil)))
      (pss_cons (ps_set (i := 4) scTop.nd rfl (.inl rfl) (pe_lst (pa_cons (pe_callB call_len_seq (by rfl) ml PySem.boot_len (pa_cons (pv 3) pa_nil)) pa_nil)))
      (pss_cons (ps_for PassesOwn.never rfl (pi_list (pv 3)) (pg_name (i := 5) scTop.nd rfl (.inl rfl))
        (pss_one (ps_expr (pe_bm PySem.F.plainAttrs_list PySem.F.slot_list_extend PySem.F.type_list_extend mt_extend (pv 4) (pa_cons (pv 5) pa_nil)))))
      (pss_one (ps_ret (pv 4)))))), ?_⟩
    refine ⟨iv p, rfl, iv n, rfl, p, n, rfl, _, rfl, ?_⟩
    cases hok : Kzt1.okField p n with
    | false =>
      refine iteT ?_
      refine iteT ?_
      refine ⟨by show 1 ≤ sizeLine; decide, fun l nl => ?_⟩
      refine q _ l ?_
      rw [top_no p n f (.inl hok), upd_same]
      rfl
    | true =>
      refine iteF ?_
      obtain ⟨hpc, hn1, hn3⟩ := ok_cases hok
      have hn : n = 1 ∨ n = 2 ∨ n = 3 := by omega
      refine ⟨iv p, rfl, iv n, rfl, .ref a, rfl, p, n, a, f, rfl, hs, hn, hlen, fun H1 sm1 => ⟨_, rfl, ?_⟩⟩
      cases hrow : okRow p n f with
      | false =>
        refine iteT ?_
        refine ⟨by show 1 ≤ sizeLine; decide, fun l nl => ?_⟩
        refine q _ l ?_
        rw [top_no p n f (.inr hrow), upd_same]
        rfl
      | true =>
        refine iteF ?_
        have hm : f.length % (n + 1) = 0 := by
          unfold okRow at hrow
          rw [Bool.and_eq_true, decide_eq_true_eq] at hrow
          exact hrow.1
        have hf := div_len hm
        obtain ⟨hl1, hl2⟩ := hiRows_len hm hlen
        refine ⟨iv n, rfl, .ref a, rfl, n, a, f, f.length / (n + 1), rfl, sm1.seq hs, hn, hf, hlen, fun H2 b rs sm2 nb hb hrs => ?_⟩
        refine ⟨b, rs, _, rfl, hb, hrs, ?_, fun H3 c rs3 sm3 nc hc hrs3 => ?_⟩
        · unfold rowsOf
          rw [List.length_map, List.length_range]
          have := Nat.div_le_self f.length (n + 1)
          omega
        · have hl3 := hrs3.len
          change rs3.length = (hiRows n f).length at hl3
          refine ⟨.ref c, rfl, c, rs3, rfl, .inl (SqL.of hc), by show 1 ≤ sizeLine; decide, fun l nl => ?_⟩
          have hlc : l ≠ c := ne_free hc nl
          refine ⟨.ref c, rfl, c, rfl, ⟨_, SqL.of ((same_upd nl) _ _ hc)⟩, for_list (K := K) (a := c) (xs := rs3) (fun i σ H' => ∃ y : Option V, σ = [some (iv p), some (iv n), some (.ref a), some (.ref c), some (.ref l), y] ∧ Same H3 H' ∧ H' l = some (.lst (ivs ((hiRows n f).length :: ((hiRows n f).take i).flatten))))
            ⟨none, rfl, same_upd nl, ?_⟩ ?_ ?_ ?_⟩
          · rw [upd_same, hl3]
            rfl
          · rintro i σ H' _ ⟨_, _, sm, _⟩
            exact sm.seq (SqL.of hc)
          · rintro i x σ H' hi ⟨y, rfl, sm, hl⟩
            obtain ⟨r, t, rfl, ht, hrt⟩ := Rows.at hrs3 hi
            have ht' : (hiRows n f)[i]? = some t := ht
            have hrt' := sm _ _ hrt
            have htl := hl2 t (List.mem_of_getElem? ht')
            have hfl := flat_len (n := n + 1) (ts := (hiRows n f).take i) fun u hu => hl2 u (List.mem_of_mem_take hu)
            rw [List.length_take] at hfl
            have hbound : min i (hiRows n f).length * (n + 1) ≤ 1600 := by
              refine Nat.le_trans (Nat.mul_le_mul (Nat.le_trans (Nat.min_le_right _ _) hl1) (show n + 1 ≤ 4 by omega)) ?_
              exact Nat.le_refl _
            refine ⟨.ref l, rfl, .inl ⟨rfl, _, SqL.of hl⟩, .ref r, rfl, l, r, _, _, rfl, rfl, hl, hrt', ?_, some (.ref r), rfl, same_new sm nl, ?_⟩
            · rw [ivs_length, ivs_length, List.length_cons, hfl, htl, sizeLine_eq]
              omega
            · rw [upd_same, take_get ht', List.flatten_append, ← ivs_append]
              simp
          · rintro σ H' ⟨y, rfl, sm, hl⟩
            rw [hl3, List.take_length] at hl
            refine ⟨_, rfl, q H' l ?_⟩
            rw [top_in p n f hok hrow, ivs_ints]
            exact hl
end
end KM
namespace KM
open PySem PySem.Spec PyProof.Rows L2
theorem primes_at {K : PySem.W.Frag} {aP : Addr} {od : Option Addr} {t2 t3 t5 t7 n : Nat} {sl : Array (Option Value)}
    (l : K.lookup aP = some ⟨.type "tuple", od, .seq #[.int 2 t2, .int 3 t3, .int 5 t5, .int 7 t7] n, sl⟩) (H : Hp) : SqT K H aP (ivs [2, 3, 5, 7]) :=
  .inr ⟨_, _, _, l, rfl, rfl, (by show 4 ≤ sizeLine; decide), .cons ⟨_, rfl⟩ (.cons ⟨_, rfl⟩ (.cons ⟨_, rfl⟩ (.cons ⟨_, rfl⟩ .nil)))⟩
theorem all_mk {P : Program} {w : World} {K : PySem.W.Frag} {h : Heap} {mg : Str → Option Value} {fa aP f1 f2 f3 f4 f5 f6 f7 f8 : Addr} {t2 t3 t5 t7 nP tM tW tT : Nat} (X : K.In h) (G : h.Ns mainGlobals mg) (hfa : mg "top" = some (.ref fa))
    {odP od1 an1 od2 an2 od3 an3 od4 an4 od5 an5 od6 an6 od7 an7 od8 an8 : Option Addr} {slP sl1 sl2 sl3 sl4 sl5 sl6 sl7 sl8 : Array (Option Value)}
    {oc1 kV1 dc1 pm1 cd1 ct1 oc2 kV2 dc2 pm2 cd2 ct2 oc3 kV3 dc3 pm3 cd3 ct3 oc4 kV4 dc4 pm4 cd4 ct4 oc5 kV5 dc5 pm5 cd5 ct5 oc6 kV6 dc6 pm6 cd6 ct6 oc7 kV7 dc7 pm7 cd7 ct7 oc8 kV8 dc8 pm8 cd8 ct8 : Value}
    (aPr : PySem.W.nsIn K mainGlobals "PRIMES" = some (some (.ref aP))) (lPr : K.lookup aP = some ⟨.type "tuple", odP, .seq #[.int 2 t2, .int 3 t3, .int 5 t5, .int 7 t7] nP, slP⟩)
    (kM : PySem.W.nsIn K mainGlobals "MOST_NUMBERS" = some (some (.int 3 tM)))
    (kW : PySem.W.nsIn K mainGlobals "WRONG_FORM" = some (some (.int (-22) tW)))
    (kT : PySem.W.nsIn K mainGlobals "MOST_TIMES" = some (some (.int 12 tT)))
    (z1 : PySem.W.nsIn K mainGlobals "range" = some none)
    (z2 : PySem.W.nsIn K mainGlobals "sum" = some none)
    (z3 : PySem.W.nsIn K mainGlobals "all" = some none)
    (z4 : PySem.W.nsIn K mainGlobals "len" = some none)
    (z5 : PySem.W.nsIn K mainGlobals "max" = some none)
    (a1 : PySem.W.nsIn K mainGlobals "top" = some (some (.ref f1))) (l1 : K.lookup f1 = some ⟨oc1, od1, .func (PySem.W.fnOf "top" "top" (defArgs sTop) (defBody sTop) (defScope sTop) .none kV1 dc1 pm1 an1 cd1 ct1), sl1⟩) (c1 : PySem.W.codeIn K cd1 "top" = true) (k1 : PySem.W.keepIn K (.ref f1) = true)
    (a2 : PySem.W.nsIn K mainGlobals "is_space" = some (some (.ref f2))) (l2 : K.lookup f2 = some ⟨oc2, od2, .func (PySem.W.fnOf "is_space" "is_space" (defArgs sSpace) (defBody sSpace) (defScope sSpace) .none kV2 dc2 pm2 an2 cd2 ct2), sl2⟩) (c2 : PySem.W.codeIn K cd2 "is_space" = true) (k2 : PySem.W.keepIn K (.ref f2) = true)
    (a3 : PySem.W.nsIn K mainGlobals "terms_of_row" = some (some (.ref f3))) (l3 : K.lookup f3 = some ⟨oc3, od3, .func (PySem.W.fnOf "terms_of_row" "terms_of_row" (defArgs sTor) (defBody sTor) (defScope sTor) .none kV3 dc3 pm3 an3 cd3 ct3), sl3⟩) (c3 : PySem.W.codeIn K cd3 "terms_of_row" = true) (k3 : PySem.W.keepIn K (.ref f3) = true)
    (a4 : PySem.W.nsIn K mainGlobals "degree_of_term" = some (some (.ref f4))) (l4 : K.lookup f4 = some ⟨oc4, od4, .func (PySem.W.fnOf "degree_of_term" "degree_of_term" (defArgs sDeg) (defBody sDeg) (defScope sDeg) .none kV4 dc4 pm4 an4 cd4 ct4), sl4⟩) (c4 : PySem.W.codeIn K cd4 "degree_of_term" = true) (k4 : PySem.W.keepIn K (.ref f4) = true)
    (a5 : PySem.W.nsIn K mainGlobals "rank_of_term" = some (some (.ref f5))) (l5 : K.lookup f5 = some ⟨oc5, od5, .func (PySem.W.fnOf "rank_of_term" "rank_of_term" (defArgs sRank) (defBody sRank) (defScope sRank) .none kV5 dc5 pm5 an5 cd5 ct5), sl5⟩) (c5 : PySem.W.codeIn K cd5 "rank_of_term" = true) (k5 : PySem.W.keepIn K (.ref f5) = true)
    (a6 : PySem.W.nsIn K mainGlobals "is_term" = some (some (.ref f6))) (l6 : K.lookup f6 = some ⟨oc6, od6, .func (PySem.W.fnOf "is_term" "is_term" (defArgs sTerm) (defBody sTerm) (defScope sTerm) .none kV6 dc6 pm6 an6 cd6 ct6), sl6⟩) (c6 : PySem.W.codeIn K cd6 "is_term" = true) (k6 : PySem.W.keepIn K (.ref f6) = true)
    (a7 : PySem.W.nsIn K mainGlobals "is_polynomial" = some (some (.ref f7))) (l7 : K.lookup f7 = some ⟨oc7, od7, .func (PySem.W.fnOf "is_polynomial" "is_polynomial" (defArgs sPoly) (defBody sPoly) (defScope sPoly) .none kV7 dc7 pm7 an7 cd7 ct7), sl7⟩) (c7 : PySem.W.codeIn K cd7 "is_polynomial" = true) (k7 : PySem.W.keepIn K (.ref f7) = true)
    (a8 : PySem.W.nsIn K mainGlobals "highest_terms" = some (some (.ref f8))) (l8 : K.lookup f8 = some ⟨oc8, od8, .func (PySem.W.fnOf "highest_terms" "highest_terms" (defArgs sHigh) (defBody sHigh) (defScope sHigh) .none kV8 dc8 pm8 an8 cd8 ct8), sl8⟩) (c8 : PySem.W.codeIn K cd8 "highest_terms" = true) (k8 : PySem.W.keepIn K (.ref f8) = true) :
    ∃ fd : FuncData, (∀ (s : Shared) (us : List Value), us.length = (["p", "n", "f"] : List Str).length → BindsTo s fd ⟨us, []⟩ ((["p", "n", "f"] : List Str).zip us)) ∧ ∀ base : Heap, K.In base → base.Ns mainGlobals mg → FnOk P w K mg base CX0 4 fa fd ["p", "n", "f"] (spTop K) := by
  have e := hfa.symm.trans (PySem.W.mg_of X G a1)
  cases e
  have T : Txt K mg aP tM tW 0 := ⟨PySem.W.mg_of X G aPr, primes_at lPr, PySem.W.mg_of X G kM, PySem.W.mg_of X G kW, PySem.W.mg_none_of X G z1⟩
  have F1 := fun_mk (st := sTop) l1 c1 k1
  have F2 := fun_mk (st := sSpace) l2 c2 k2
  have F3 := fun_mk (st := sTor) l3 c3 k3
  have F4 := fun_mk (st := sDeg) l4 c4 k4
  have F5 := fun_mk (st := sRank) l5 c5 k5
  have F6 := fun_mk (st := sTerm) l6 c6 k6
  have F7 := fun_mk (st := sPoly) l7 c7 k7
  have F8 := fun_mk (st := sHigh) l8 c8 k8
  have b2 := F2.binds (ps := ["p", "n"]) fun _ _ _ _ _ _ us hl => match us, hl with | [_, _], _ => rfl
  have b3 := F3.binds (ps := ["n", "f"]) fun _ _ _ _ _ _ us hl => match us, hl with | [_, _], _ => rfl
  have b4 := F4.binds (ps := ["term"]) fun _ _ _ _ _ _ us hl => match us, hl with | [_], _ => rfl
  have b5 := F5.binds (ps := ["term"]) fun _ _ _ _ _ _ us hl => match us, hl with | [_], _ => rfl
  have b6 := F6.binds (ps := ["p", "term"]) fun _ _ _ _ _ _ us hl => match us, hl with | [_, _], _ => rfl
  have b7 := F7.binds (ps := ["p", "n", "f"]) fun _ _ _ _ _ _ us hl => match us, hl with | [_, _, _], _ => rfl
  have b8 := F8.binds (ps := ["terms"]) fun _ _ _ _ _ _ us hl => match us, hl with | [_], _ => rfl
  exact ⟨PySem.W.fnOf "top" "top" (defArgs sTop) (defBody sTop) (defScope sTop) .none kV1 dc1 pm1 an1 cd1 ct1, fun s us hu => match us, hu with | [_, _, _], _ => .of_eq rfl, fun base _ _ =>
    ok_top F1 F2 b2 (PySem.W.mg_of X G a2) F3 b3 (PySem.W.mg_of X G a3) F4 b4 (PySem.W.mg_of X G a4) F5 b5 (PySem.W.mg_of X G a5) F6 b6 (PySem.W.mg_of X G a6) F7 b7 (PySem.W.mg_of X G a7) F8 b8 (PySem.W.mg_of X G a8) (PySem.W.mg_of X G kT) (PySem.W.mg_none_of X G z2) (PySem.W.mg_none_of X G z3) (PySem.W.mg_none_of X G z4) (PySem.W.mg_none_of X G z5) T⟩
end KM
open PySem PySem.W PyProof.Rows
set_option maxRecDepth 100000 in
set_option maxHeartbeats 8000000 in
theorem PySem.Challenge.cw_everywaydesk_s06_top_holds : PySem.Challenge.rw_everywaydesk_s06_top.Holds := by
  w_on; k_headS; (case hw => exact ⟨[.int 2, .int 1, .list []], by decide +kernel, by decide +kernel⟩)
  k_fillS
  refine L2.walk_specK (r := PySem.Challenge.rw_everywaydesk_s06_top) (k := 4) (CX := L2.CX0) (ps := ["p", "n", "f"]) (sp := fun K => KM.spTop K) (by decide +kernel) rfl rfl ⟨rfl, by decide, by decide⟩ (fun w h Y => PySem.W.kIn_of Y) ?F ?S (fun _ _ _ _ z => z)
  case F =>
    intro w mg fa h Y KX G hmg
    refine' KM.all_mk KX G hmg ?aPr ?lPr ?kM ?kW ?kT ?z1 ?z2 ?z3 ?z4 ?z5 ?a1 ?l1 ?c1 ?k1 ?a2 ?l2 ?c2 ?k2 ?a3 ?l3 ?c3 ?k3 ?a4 ?l4 ?c4 ?k4 ?a5 ?l5 ?c5 ?k5 ?a6 ?l6 ?c6 ?k6 ?a7 ?l7 ?c7 ?k7 ?a8 ?l8 ?c8 ?k8
    (case aPr => k_is)
    (case lPr => k_is)
    (case kM => k_is)
    (case kW => k_is)
    (case kT => k_is)
    (case z1 => k_is)
    (case z2 => k_is)
    (case z3 => k_is)
    (case z4 => k_is)
    (case z5 => k_is)
    (case a1 => k_is)
    (case l1 => k_is)
    (case c1 => k_is)
    (case k1 => k_is)
    (case a2 => k_is)
    (case l2 => k_is)
    (case c2 => k_is)
    (case k2 => k_is)
    (case a3 => k_is)
    (case l3 => k_is)
    (case c3 => k_is)
    (case k3 => k_is)
    (case a4 => k_is)
    (case l4 => k_is)
    (case c4 => k_is)
    (case k4 => k_is)
    (case a5 => k_is)
    (case l5 => k_is)
    (case c5 => k_is)
    (case k5 => k_is)
    (case a6 => k_is)
    (case l6 => k_is)
    (case c6 => k_is)
    (case k6 => k_is)
    (case a7 => k_is)
    (case l7 => k_is)
    (case c7 => k_is)
    (case k7 => k_is)
    (case a8 => k_is)
    (case l8 => k_is)
    (case c8 => k_is)
    (case k8 => k_is)
  case S =>
    intro K H xs a hO hwi hask hx
    obtain ⟨p, n, f, u⟩ := a
    cases hx with
    | cons h1 r1 =>
      cases r1 with
      | cons h2 r2 =>
        cases r2 with
        | cons h3 r3 =>
          cases r3
          cases h1
          cases h2
          cases h3 with
          | lst hs ha =>
            have e := L2.ints_dw f _ ha
            subst e
            have q : (Codec.inInt 0 4294967295 p && (Codec.inInt 0 4294967295 n && ((Codec.inLen 0 400 f && f.all (Codec.inInt 0 4294967295)) && true))) = true := hwi
            rw [Bool.and_eq_true, Bool.and_eq_true, Bool.and_eq_true, Bool.and_eq_true] at q
            have lo : ∀ z : Int, Codec.inInt 0 4294967295 z = true → 0 ≤ z := fun z hz => by
              unfold Codec.inInt at hz
              simp only [Bool.and_eq_true, decide_eq_true_eq] at hz
              exact hz.1
            exact ⟨p, n, _, f, rfl, lo _ q.1, lo _ q.2.1, hs, (Codec.inNat_iff.mp q.2.2.1.1).2, (fun z hz => lo _ (List.all_eq_true.mp q.2.2.1.2 z hz)), fun H' r hr => .lst (L2.SqL.of hr) (L2.dw_ints _)⟩
#print axioms PySem.Challenge.cw_everywaydesk_s06_top_holds
