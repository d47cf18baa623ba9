import PyProof.Rows.All
import Wide.All
import OpenK.AllK
import Wide.FinOn
import Open.SpecLaws
import KE.OsGo
import KE.SortKeyHeap
import HandS.ForSpec
import HandS.Comp
import HandS.Iter
import HandS.Walk
import HandS.Dict
import HandS.SortKw
import HandS.Conv
import HandS.Zip
import HandS.Text
import PySem.Challenge.RW_everywaydesk_s07_fewest
set_option Elab.async false
set_option linter.all false
set_option maxRecDepth 100000
set_option maxHeartbeats 2000000
namespace KM
open Kzt1 (coords pointNo space okField)

/-- reversed Horner -/
def hor (p : Nat) (l : List Nat) : Nat := l.foldr (fun c a => a * p + c) 0

def isDir (p n v : Nat) : Bool := decide (v < p ^ n) && ((coords p n v).find? (fun x => x != 0) == some 1)

theorem directions_eq (p n : Nat) : Kzt2.directions p n = (List.range (p ^ n)).filter (isDir p n) := by
  unfold Kzt2.directions space
  apply List.filter_congr
  intro v hv
  have := List.mem_range.mp hv
  simp [isDir, this]

theorem directions_contains (p n v : Nat) : (Kzt2.directions p n).contains v = isDir p n v := by
  rw [directions_eq]
  cases h : isDir p n v with
  | true =>
    have hlt : v < p ^ n := by
      simp [isDir] at h
      exact h.1
    simp [List.contains_iff_mem, hlt, h]
  | false =>
    simp [h]

theorem coords_length (p n x : Nat) : (coords p n x).length = n := by simp [coords]
theorem coords_succ (p n x : Nat) : coords p (n + 1) x = coords p n x ++ [x / p ^ n % p] := by
  simp [coords, List.range_succ]
theorem coords_get (p n x i : Nat) (h : i < n) : (coords p n x)[i]? = some (x / p ^ i % p) := by
  simp [coords, h]

theorem sum_from (p : Nat) : ∀ (l : List Nat) (k a : Nat), (∀ c ∈ l, c < p) →
    ((l.zipIdx k).map fun y => y.1 % p * p ^ y.2).foldl (· + ·) a = a + hor p l * p ^ k
  | [], k, a, _ => by simp [hor]
  | c :: l, k, a, h => by
    have hc : c < p := h c (by simp)
    rw [List.zipIdx_cons, List.map_cons, List.foldl_cons, sum_from p l (k + 1) _ (fun d hd => h d (by simp [hd]))]
    show a + c % p * p ^ k + hor p l * p ^ (k + 1) = a + (hor p l * p + c) * p ^ k
    rw [Nat.mod_eq_of_lt hc, Nat.pow_succ, Nat.add_mul, Nat.mul_assoc (hor p l) p, Nat.mul_comm p (p ^ k)]
    omega

theorem pointNo_eq (p : Nat) (l : List Nat) (h : ∀ c ∈ l, c < p) : pointNo p l = hor p l := by
  unfold pointNo
  rw [sum_from p l 0 0 h]
  simp

/-- the numbers of the t-th point of a line -/
def lineNums (p n x v t : Nat) : List Nat := (List.range n).map fun i => (x / p ^ i % p + t * (v / p ^ i % p)) % p

theorem shifted_eq (p n x v t : Nat) (hp : 0 < p) : Kzt2.shifted p n x v t = hor p (lineNums p n x v t) := by
  have e : (((coords p n x).zip (coords p n v)).map fun y => (y.1 + t * y.2) % p) = lineNums p n x v t := by
    simp [coords, lineNums, List.zip_map', List.map_map, Function.comp_def]
  unfold Kzt2.shifted
  rw [e, pointNo_eq]
  intro c hc
  simp [lineNums] at hc
  obtain ⟨i, _, rfl⟩ := hc
  exact Nat.mod_lt _ hp

theorem lineAt_eq (p n x v : Nat) (hp : 0 < p) : Kzt2.lineAt p n x v = (List.range p).map fun t => hor p (lineNums p n x v t) := by
  unfold Kzt2.lineAt
  apply List.map_congr_left
  intro t _
  exact shifted_eq p n x v t hp

theorem ok_cases {p n : Nat} (h : okField p n = true) : (p = 2 ∨ p = 3 ∨ p = 5 ∨ p = 7) ∧ 1 ≤ n ∧ n ≤ 3 := by
  simp [okField] at h
  omega
theorem ok_pow {p n : Nat} (h : okField p n = true) : p ^ n ≤ 343 := by
  obtain ⟨a, b, c⟩ := ok_cases h
  have : n = 1 ∨ n = 2 ∨ n = 3 := by omega
  rcases a with rfl | rfl | rfl | rfl <;> rcases this with rfl | rfl | rfl <;> decide
/-- the elements of a list, walked from its end -/
theorem hor_cons (p c : Nat) (l : List Nat) : hor p (c :: l) = hor p l * p + c := rfl
theorem hor_drop (p : Nat) (l : List Nat) (i c : Nat) (h : l[l.length - 1 - i]? = some c) (hi : i < l.length) :
    hor p (l.drop (l.length - (i + 1))) = hor p (l.drop (l.length - i)) * p + c := by
  have e : l.length - (i + 1) = l.length - 1 - i := by omega
  have hlt : l.length - 1 - i < l.length := by omega
  rw [e, List.drop_eq_getElem_cons hlt, hor_cons]
  have e2 : l.length - 1 - i + 1 = l.length - i := by omega
  rw [e2]
  congr 1
  rw [List.getElem?_eq_getElem hlt] at h
  exact Option.some.inj h

theorem find_none_take {l : List Nat} {i : Nat} {c : Nat} (h : (l.take i).find? (fun x => x != 0) = none) (hc : l[i]? = some c) (c0 : c = 0) :
    (l.take (i + 1)).find? (fun x => x != 0) = none := by
  rw [List.take_add_one, hc, List.find?_append, h]
  simp [c0]
theorem find_some_take {l : List Nat} {i : Nat} {c : Nat} (h : (l.take i).find? (fun x => x != 0) = none) (hc : l[i]? = some c) (c0 : c ≠ 0) :
    l.find? (fun x => x != 0) = some c := by
  have hlt : i < l.length := by
    rcases Nat.lt_or_ge i l.length with q | q
    · exact q
    · rw [List.getElem?_eq_none q] at hc
      cases hc
  have e : l = l.take i ++ l.drop i := (List.take_append_drop i l).symm
  have ed : l.drop i = c :: l.drop (i + 1) := by
    rw [List.drop_eq_getElem_cons hlt]
    rw [List.getElem?_eq_getElem hlt] at hc
    rw [Option.some.inj hc]
  rw [e, List.find?_append, h, ed]
  simp [c0]
end KM
namespace KM
open Kzt1 (coords pointNo space okField)

theorem coords_cons (p n x : Nat) : coords p (n + 1) x = x % p :: coords p n (x / p) := by
  unfold coords
  rw [List.range_succ_eq_map, List.map_cons, List.map_map]
  congr 1
  · simp
  · apply List.map_congr_left
    intro i _
    show x / p ^ (i + 1) % p = x / p / p ^ i % p
    rw [Nat.pow_succ, Nat.mul_comm, Nat.div_div_eq_div_mul]
theorem hor_lt (p : Nat) : ∀ l : List Nat, (∀ c ∈ l, c < p) → hor p l < p ^ l.length
  | [], _ => by simp [hor]
  | c :: l, h => by
    have ih := hor_lt p l (fun d hd => h d (by simp [hd]))
    have hc : c < p := h c (by simp)
    rw [hor_cons, List.length_cons, Nat.pow_succ]
    calc hor p l * p + c < hor p l * p + p := by omega
      _ = (hor p l + 1) * p := by rw [Nat.add_mul, Nat.one_mul]
      _ ≤ p ^ l.length * p := Nat.mul_le_mul_right _ ih
theorem coords_hor (p : Nat) : ∀ l : List Nat, (∀ c ∈ l, c < p) → coords p l.length (hor p l) = l
  | [], _ => rfl
  | c :: l, h => by
    have hc : c < p := h c (by simp)
    have hp : 0 < p := by omega
    rw [List.length_cons, coords_cons, hor_cons]
    have e1 : (hor p l * p + c) % p = c := by rw [Nat.add_comm, Nat.add_mul_mod_self_right, Nat.mod_eq_of_lt hc]
    have e2 : (hor p l * p + c) / p = hor p l := by rw [Nat.add_comm, Nat.add_mul_div_right _ _ hp, Nat.div_eq_of_lt hc, Nat.zero_add]
    rw [e1, e2, coords_hor p l (fun d hd => h d (by simp [hd]))]
theorem hor_coords (p : Nat) : ∀ n x : Nat, x < p ^ n → hor p (coords p n x) = x
  | 0, x, h => by
    have : x = 0 := by simpa using h
    subst this
    rfl
  | n + 1, x, h => by
    rw [coords_cons, hor_cons, hor_coords p n (x / p)]
    · rw [Nat.mul_comm]
      exact Nat.div_add_mod x p
    · rw [Nat.pow_succ] at h
      exact Nat.div_lt_of_lt_mul (by rw [Nat.mul_comm]; exact h)

theorem lineNums_lt {p n x v t : Nat} (hp : 0 < p) : ∀ c ∈ lineNums p n x v t, c < p := by
  intro c hc
  simp [lineNums] at hc
  obtain ⟨i, _, rfl⟩ := hc
  exact Nat.mod_lt _ hp
theorem lineNums_length (p n x v t : Nat) : (lineNums p n x v t).length = n := by simp [lineNums]
theorem shifted_lt {p n x v t : Nat} (hp : 0 < p) : Kzt2.shifted p n x v t < p ^ n := by
  rw [shifted_eq p n x v t hp]
  have := hor_lt p (lineNums p n x v t) (lineNums_lt hp)
  rwa [lineNums_length] at this
theorem coords_shifted {p n x v t : Nat} (hp : 0 < p) : coords p n (Kzt2.shifted p n x v t) = lineNums p n x v t := by
  have := coords_hor p (lineNums p n x v t) (lineNums_lt hp)
  rwa [lineNums_length, ← shifted_eq p n x v t hp] at this
theorem digit_shifted {p n x v t i : Nat} (hp : 0 < p) (hi : i < n) : Kzt2.shifted p n x v t / p ^ i % p = (x / p ^ i % p + t * (v / p ^ i % p)) % p := by
  have e := congrArg (fun l : List Nat => l[i]?) (coords_shifted (p := p) (n := n) (x := x) (v := v) (t := t) hp)
  simp only [coords_get p n _ i hi] at e
  rw [show (lineNums p n x v t)[i]? = some ((x / p ^ i % p + t * (v / p ^ i % p)) % p) by
    unfold lineNums
    rw [List.getElem?_map, List.getElem?_range hi]
    rfl] at e
  exact Option.some.inj e
theorem shifted_shifted {p n x v t u : Nat} (hp : 0 < p) : Kzt2.shifted p n (Kzt2.shifted p n x v t) v u = Kzt2.shifted p n x v ((t + u) % p) := by
  rw [shifted_eq p n (Kzt2.shifted p n x v t) v u hp, shifted_eq p n x v ((t + u) % p) hp]
  congr 1
  unfold lineNums
  apply List.map_congr_left
  intro i hi
  have hi := List.mem_range.mp hi
  rw [digit_shifted hp hi]
  generalize x / p ^ i % p = a
  generalize v / p ^ i % p = b
  rw [Nat.mod_add_mod, Nat.add_mod a ((t + u) % p * b) p, Nat.mul_mod ((t + u) % p) b p, Nat.mod_mod, ← Nat.mul_mod, ← Nat.add_mod, Nat.add_mul, Nat.add_assoc]
theorem shifted_zero {p n x v : Nat} (hp : 0 < p) (hx : x < p ^ n) : Kzt2.shifted p n x v 0 = x := by
  rw [shifted_eq p n x v 0 hp]
  have : lineNums p n x v 0 = coords p n x := by
    unfold lineNums coords
    apply List.map_congr_left
    intro i _
    rw [Nat.zero_mul, Nat.add_zero, Nat.mod_mod]
  rw [this, hor_coords p n x hx]
theorem mem_lineAt {p n x v y : Nat} : y ∈ Kzt2.lineAt p n x v ↔ ∃ t < p, Kzt2.shifted p n x v t = y := by
  unfold Kzt2.lineAt
  simp
/-- some line in the direction v lies in s -/
def onLine (p n : Nat) (s : List Nat) (v x : Nat) : Bool := (Kzt2.lineAt p n x v).all fun y => s.contains y
theorem onLine_iff {p n : Nat} {s : List Nat} {v x : Nat} : onLine p n s v x = true ↔ ∀ t < p, Kzt2.shifted p n x v t ∈ s := by
  unfold onLine
  rw [List.all_eq_true]
  constructor
  · intro h t ht
    simpa using h _ (mem_lineAt.mpr ⟨t, ht, rfl⟩)
  · intro h y hy
    obtain ⟨t, ht, rfl⟩ := mem_lineAt.mp hy
    simpa using h t ht
/-- a least value of a function below p -/
theorem least_at (f : Nat → Nat) : ∀ p : Nat, 0 < p → ∃ t < p, ∀ u < p, f t ≤ f u
  | 1, _ => ⟨0, by omega, fun u hu => by have : u = 0 := by omega
                                         subst this
                                         exact Nat.le_refl _⟩
  | p + 2, _ => by
    obtain ⟨t, ht, h⟩ := least_at f (p + 1) (by omega)
    by_cases c : f t ≤ f (p + 1)
    · refine ⟨t, by omega, fun u hu => ?_⟩
      by_cases e : u = p + 1
      · subst e
        exact c
      · exact h u (by omega)
    · refine ⟨p + 1, by omega, fun u hu => ?_⟩
      by_cases e : u = p + 1
      · subst e
        exact Nat.le_refl _
      · have := h u (by omega)
        omega
theorem has_iff {p n : Nat} {s : List Nat} {v : Nat} (hp : 0 < p) : Kzt2.has p n s v = true ↔ ∃ x < p ^ n, onLine p n s v x = true := by
  unfold Kzt2.has Kzt2.linesIn space
  rw [List.any_eq_true]
  constructor
  · rintro ⟨x, hx, h⟩
    have := (List.mem_filter.mp hx).1
    exact ⟨x, List.mem_range.mp this, h⟩
  · rintro ⟨x, hx, h⟩
    obtain ⟨t, ht, hmin⟩ := least_at (Kzt2.shifted p n x v) p hp
    refine ⟨Kzt2.shifted p n x v t, List.mem_filter.mpr ⟨List.mem_range.mpr (shifted_lt hp), ?_⟩, ?_⟩
    · rw [List.all_eq_true]
      intro y hy
      obtain ⟨u, hu, rfl⟩ := mem_lineAt.mp hy
      rw [shifted_shifted hp]
      exact decide_eq_true (hmin _ (Nat.mod_lt _ hp))
    · show onLine p n s v _ = true
      rw [onLine_iff]
      intro u hu
      rw [shifted_shifted hp]
      exact onLine_iff.mp h _ (Nat.mod_lt _ hp)
/-- by any start -/
theorem has_range {p n : Nat} {s : List Nat} {v : Nat} (hp : 0 < p) : Kzt2.has p n s v = (List.range (p ^ n)).any (onLine p n s v) := by
  rw [Bool.eq_iff_iff, has_iff hp, List.any_eq_true]
  constructor
  · rintro ⟨x, hx, h⟩
    exact ⟨x, List.mem_range.mpr hx, h⟩
  · rintro ⟨x, hx, h⟩
    exact ⟨x, List.mem_range.mp hx, h⟩
/-- by the set's own points -/
theorem has_set {p n : Nat} {s : List Nat} {v : Nat} (hp : 0 < p) (hs : ∀ y ∈ s, y < p ^ n) : Kzt2.has p n s v = s.any (onLine p n s v) := by
  rw [Bool.eq_iff_iff, has_iff hp, List.any_eq_true]
  constructor
  · rintro ⟨x, hx, h⟩
    refine ⟨x, ?_, h⟩
    have := onLine_iff.mp h 0 hp
    rwa [shifted_zero hp hx] at this
  · rintro ⟨x, hx, h⟩
    exact ⟨x, hs x hx, h⟩
end KM
namespace KM
open Kzt1 (rising okSet okField)
/-- a row that goes on rising from m, below c -/
def okFrom (c : Nat) : Int → List Nat → Bool
  | _, [] => true
  | m, x :: l => decide (m < (x : Int)) && decide ((x : Int) < (c : Int)) && okFrom c (x : Int) l
theorem okFrom_nat (c : Nat) : ∀ (l : List Nat) (a : Nat), okFrom c (a : Int) l = (rising (a :: l) && l.all fun x => decide (x < c))
  | [], a => by simp [okFrom, rising]
  | x :: l, a => by
    have ih := okFrom_nat c l x
    unfold okFrom
    rw [ih]
    have e1 : decide ((a : Int) < (x : Int)) = decide (a < x) := decide_eq_decide.mpr (by omega)
    have e2 : decide ((x : Int) < (c : Int)) = decide (x < c) := decide_eq_decide.mpr (by omega)
    rw [e1, e2]
    show _ = ((decide (a < x) && rising (x :: l)) && (decide (x < c) && l.all fun x => decide (x < c)))
    cases decide (a < x) <;> cases decide (x < c) <;> cases rising (x :: l) <;> rfl
theorem okFrom_set (p n : Nat) (s : List Nat) : okFrom (p ^ n) (-1) s = okSet p n s := by
  cases s with
  | nil => rfl
  | cons x l =>
    unfold okFrom okSet
    rw [okFrom_nat]
    have e1 : decide ((-1 : Int) < (x : Int)) = true := decide_eq_true (by omega)
    have e2 : decide ((x : Int) < ((p ^ n : Nat) : Int)) = decide (x < p ^ n) := decide_eq_decide.mpr (by omega)
    rw [e1, e2, List.all_cons]
    cases decide (x < p ^ n) <;> cases rising (x :: l) <;> rfl
theorem rising_pair : ∀ l : List Nat, rising l = true → l.Pairwise (· < ·)
  | [], _ => List.Pairwise.nil
  | [a], _ => List.pairwise_singleton _ _
  | a :: b :: l, h => by
    have h' : (decide (a < b) && rising (b :: l)) = true := h
    rw [Bool.and_eq_true] at h'
    have ih := rising_pair (b :: l) h'.2
    have hab := of_decide_eq_true h'.1
    refine List.pairwise_cons.mpr ⟨fun c hc => ?_, ih⟩
    rcases List.mem_cons.mp hc with rfl | hc
    · exact hab
    · have := (List.pairwise_cons.mp ih).1 c hc
      omega
theorem okSet_nodup {p n : Nat} {s : List Nat} (h : okSet p n s = true) : s.Nodup := by
  unfold okSet at h
  rw [Bool.and_eq_true] at h
  exact (rising_pair s h.1).imp (fun hab => Nat.ne_of_lt hab)
theorem okSet_lt {p n : Nat} {s : List Nat} (h : okSet p n s = true) : ∀ y ∈ s, y < p ^ n := by
  unfold okSet at h
  rw [Bool.and_eq_true, List.all_eq_true] at h
  exact fun y hy => of_decide_eq_true (h.2 y hy)
theorem nat_list (s : List Int) (h : ∀ z ∈ s, 0 ≤ z) : ∃ l : List Nat, s = l.map (fun (y : Nat) => (y : Int)) := by
  refine ⟨s.map Int.toNat, ?_⟩
  rw [List.map_map]
  conv => lhs; rw [← List.map_id s]
  apply List.map_congr_left
  intro z hz
  have := h z hz
  show z = ((z.toNat : Nat) : Int)
  omega
theorem natsOf_map (l : List Nat) : (l.map (fun (y : Nat) => (y : Int))).map Int.toNat = l := by
  rw [List.map_map]
  conv => rhs; rw [← List.map_id l]
  apply List.map_congr_left
  intro y _
  rfl
theorem any_take_succ {α : Type} (f : α → Bool) (l : List α) (i : Nat) (x : α) (h : l[i]? = some x) : (l.take (i + 1)).any f = ((l.take i).any f || f x) := by
  rw [List.take_add_one, h, List.any_append]
  simp
end KM
namespace KM
open Kzt1 (Term total lexBefore before put norm okPoly degree cut readPoly)

/-! ### the order of terms -/
theorem lex_irrefl : ∀ l : List Nat, lexBefore l l = false
  | [] => rfl
  | a :: l => by
    unfold lexBefore
    rw [lex_irrefl l]
    simp
theorem lex_trans : ∀ a b c : List Nat, lexBefore a b = true → lexBefore b c = true → lexBefore a c = true
  | [], _, _, h, _ => by unfold lexBefore at h; cases h
  | _ :: _, [], _, h, _ => by unfold lexBefore at h; cases h
  | _ :: _, _ :: _, [], _, h => by unfold lexBefore at h; cases h
  | x :: a, y :: b, z :: c, h1, h2 => by
    unfold lexBefore at h1 h2 ⊢
    simp only [Bool.or_eq_true, decide_eq_true_eq, Bool.and_eq_true, beq_iff_eq] at h1 h2 ⊢
    rcases h1 with h1 | ⟨e1, h1⟩
    · rcases h2 with h2 | ⟨e2, h2⟩
      · exact .inl (by omega)
      · exact .inl (by omega)
    · rcases h2 with h2 | ⟨e2, h2⟩
      · exact .inl (by omega)
      · exact .inr ⟨by omega, lex_trans a b c h1 h2⟩
theorem lex_tri : ∀ a b : List Nat, a.length = b.length → a ≠ b → lexBefore a b = false → lexBefore b a = true
  | [], [], _, h, _ => absurd rfl h
  | [], _ :: _, h, _, _ => by simp at h
  | _ :: _, [], h, _, _ => by simp at h
  | x :: a, y :: b, hl, hne, hf => by
    unfold lexBefore at hf ⊢
    simp only [Bool.or_eq_false_iff, decide_eq_false_iff_not, Bool.and_eq_false_imp, beq_iff_eq] at hf
    simp only [Bool.or_eq_true, decide_eq_true_eq, Bool.and_eq_true, beq_iff_eq]
    by_cases e : y = x
    · subst e
      exact .inr ⟨rfl, lex_tri a b (by simpa using hl) (fun z => hne (by rw [z])) (hf.2 rfl)⟩
    · exact .inl (by omega)
theorem before_irrefl (e : List Nat) : before e e = false := by
  unfold before
  rw [lex_irrefl]
  simp
theorem before_trans {a b c : List Nat} (h1 : before a b = true) (h2 : before b c = true) : before a c = true := by
  unfold before at h1 h2 ⊢
  simp only [Bool.or_eq_true, decide_eq_true_eq, Bool.and_eq_true, beq_iff_eq] at h1 h2 ⊢
  rcases h1 with h1 | ⟨e1, h1⟩
  · rcases h2 with h2 | ⟨e2, h2⟩
    · exact .inl (by omega)
    · exact .inl (by omega)
  · rcases h2 with h2 | ⟨e2, h2⟩
    · exact .inl (by omega)
    · exact .inr ⟨by omega, lex_trans a b c h1 h2⟩
theorem before_asymm {a b : List Nat} (h : before a b = true) : before b a = false := by
  cases e : before b a with
  | false => rfl
  | true =>
    have := before_trans h e
    rw [before_irrefl] at this
    cases this
theorem before_tri {a b : List Nat} (hl : a.length = b.length) (hne : a ≠ b) (h : before a b = false) : before b a = true := by
  unfold before at h ⊢
  simp only [Bool.or_eq_false_iff, decide_eq_false_iff_not, Bool.and_eq_false_imp, beq_iff_eq] at h
  simp only [Bool.or_eq_true, decide_eq_true_eq, Bool.and_eq_true, beq_iff_eq]
  by_cases e : total b = total a
  · exact .inr ⟨e, lex_tri a b hl hne (h.2 e.symm)⟩
  · exact .inl (by omega)

/-! ### a row of terms is its own norm where it rises -/
def Rising (f : List Term) : Prop := f.Pairwise fun t u => before t.e u.e = true
theorem put_last (p : Nat) (t : Term) (hc : t.c % p ≠ 0) : ∀ f : List Term, (∀ u ∈ f, before u.e t.e = true) → put p t f = f ++ [⟨t.c % p, t.e⟩]
  | [], _ => by
    unfold put
    rw [if_neg hc]
    rfl
  | u :: f, h => by
    have hu := h u (by simp)
    have hne : t.e ≠ u.e := fun e => by
      rw [e, before_irrefl] at hu
      cases hu
    unfold put
    rw [if_neg hne, before_asymm hu, if_neg Bool.false_ne_true, put_last p t hc f (fun w hw => h w (by simp [hw]))]
    rfl
theorem norm_append (p : Nat) (f : List Term) (t : Term) : norm p (f ++ [t]) = put p t (norm p f) := by
  unfold norm
  rw [List.foldl_append]
  rfl
/-- a rising row, with no factor of 0: its factors are taken modulo p -/
theorem norm_rising_mod (p : Nat) (f : List Term) (hr : Rising f) (hc : ∀ t ∈ f, t.c % p ≠ 0) : norm p f = f.map fun t => ⟨t.c % p, t.e⟩ := by
  have key : ∀ k ≤ f.length, norm p (f.take k) = (f.take k).map fun t => ⟨t.c % p, t.e⟩ := by
    intro k
    induction k with
    | zero =>
      intro _
      rfl
    | succ k ih =>
      intro hk
      have hk' : k < f.length := by omega
      rw [List.take_succ_eq_append_getElem hk', norm_append, ih (by omega), put_last p f[k] (hc _ (List.getElem_mem hk')), List.map_append]
      · rfl
      · intro u hu
        rw [List.mem_map] at hu
        obtain ⟨w, hw, rfl⟩ := hu
        obtain ⟨i, hi, rfl⟩ := List.mem_iff_getElem.mp hw
        rw [List.length_take] at hi
        rw [List.getElem_take]
        exact List.pairwise_iff_getElem.mp hr i k (by omega) hk' (by omega)
  have := key f.length (Nat.le_refl _)
  rwa [List.take_length] at this
theorem norm_rising (p : Nat) (f : List Term) (hr : Rising f) (hc : ∀ t ∈ f, 1 ≤ t.c ∧ t.c < p) : norm p f = f := by
  rw [norm_rising_mod p f hr]
  · conv => rhs; rw [← List.map_id f]
    apply List.map_congr_left
    intro t ht
    have := hc t ht
    rw [Nat.mod_eq_of_lt this.2]
    rfl
  · intro t ht
    have := hc t ht
    rw [Nat.mod_eq_of_lt this.2]
    omega
theorem put_mem (p : Nat) (t : Term) : ∀ (f : List Term) (w : Term), w ∈ put p t f → w.e = t.e ∨ w ∈ f
  | [], w, h => by
    unfold put at h
    split at h
    · cases h
    · left
      rw [List.mem_singleton.mp h]
  | u :: f, w, h => by
    unfold put at h
    split at h
    · next e =>
      split at h
      · exact .inr (by simp [h])
      · rcases List.mem_cons.mp h with h | h
        · left
          rw [h, e]
        · exact .inr (by simp [h])
    · split at h
      · split at h
        · exact .inr h
        · rcases List.mem_cons.mp h with h | h
          · left
            rw [h]
          · exact .inr h
      · rcases List.mem_cons.mp h with h | h
        · exact .inr (by simp [h])
        · rcases put_mem p t f w h with h | h
          · exact .inl h
          · exact .inr (by simp [h])
theorem put_rising (p n : Nat) (t : Term) (ht : t.e.length = n) : ∀ f : List Term, (∀ u ∈ f, u.e.length = n) → Rising f → Rising (put p t f)
  | [], _, _ => by
    unfold put
    split
    · exact List.Pairwise.nil
    · exact List.pairwise_singleton _ _
  | u :: f, hl, hr => by
    have hu := List.pairwise_cons.mp hr
    unfold put
    split
    · next e =>
      split
      · exact hu.2
      · exact List.pairwise_cons.mpr ⟨hu.1, hu.2⟩
    · next hne =>
      split
      · next hb =>
        split
        · exact hr
        · refine List.pairwise_cons.mpr ⟨fun w hw => ?_, hr⟩
          rcases List.mem_cons.mp hw with rfl | hw
          · exact hb
          · exact before_trans hb (hu.1 w hw)
      · next hb =>
        refine List.pairwise_cons.mpr ⟨fun w hw => ?_, put_rising p n t ht f (fun w hw => hl w (by simp [hw])) hu.2⟩
        rcases put_mem p t f w hw with h | h
        · rw [h]
          exact before_tri (by rw [ht, hl u (by simp)]) hne (Bool.eq_false_iff.mpr hb)
        · exact hu.1 w h
theorem norm_is_rising (p n : Nat) (f : List Term) (hl : ∀ u ∈ f, u.e.length = n) : Rising (norm p f) ∧ ∀ u ∈ norm p f, u.e.length = n := by
  have key : ∀ (g : List Term) (acc : List Term), (∀ u ∈ g, u.e.length = n) → (Rising acc ∧ ∀ u ∈ acc, u.e.length = n) → (Rising (g.foldl (fun a t => put p t a) acc) ∧ ∀ u ∈ g.foldl (fun a t => put p t a) acc, u.e.length = n) := by
    intro g
    induction g with
    | nil =>
      intro acc _ h
      exact h
    | cons t g ih =>
      intro acc hg h
      refine ih (put p t acc) (fun u hu => hg u (by simp [hu])) ⟨put_rising p n t (hg t (by simp)) acc h.2 h.1, fun u hu => ?_⟩
      rcases put_mem p t acc u hu with e | e
      · rw [e]
        exact hg t (by simp)
      · exact h.2 u e
  exact key f [] hl ⟨List.Pairwise.nil, by simp⟩
/-- each term as the document asks -/
def okTerm (p n : Nat) (t : Term) : Bool := decide (1 ≤ t.c) && decide (t.c < p) && t.e.length == n && t.e.all fun x => decide (x ≤ 12)
/-- each one behind the one ahead of it -/
def upward : List Term → Bool
  | t :: u :: f => before t.e u.e && upward (u :: f)
  | _ => true
theorem upward_iff : ∀ f : List Term, upward f = true ↔ Rising f
  | [] => by simp [upward, Rising]
  | [t] => by simp [upward, Rising]
  | t :: u :: f => by
    unfold upward
    rw [Bool.and_eq_true, upward_iff (u :: f)]
    unfold Rising
    constructor
    · rintro ⟨h1, h2⟩
      refine List.pairwise_cons.mpr ⟨fun w hw => ?_, h2⟩
      rcases List.mem_cons.mp hw with rfl | hw
      · exact h1
      · exact before_trans h1 ((List.pairwise_cons.mp h2).1 w hw)
    · intro h
      have := List.pairwise_cons.mp h
      exact ⟨this.1 u (by simp), this.2⟩
theorem okPoly_eq (p n : Nat) (f : List Term) : okPoly p n f = (f.all (okTerm p n) && upward f) := by
  unfold okPoly
  have e : (f.all fun t => decide (1 ≤ t.c) && decide (t.c < p) && t.e.length == n && t.e.all fun x => decide (x ≤ 12)) = f.all (okTerm p n) := rfl
  rw [e]
  cases h : f.all (okTerm p n) with
  | false => rfl
  | true =>
    rw [Bool.true_and, Bool.true_and]
    have ht : ∀ t ∈ f, (1 ≤ t.c ∧ t.c < p) ∧ t.e.length = n := fun t ht => by
      have := List.all_eq_true.mp h t ht
      unfold okTerm at this
      simp only [Bool.and_eq_true, decide_eq_true_eq, beq_iff_eq] at this
      exact ⟨this.1.1, this.1.2⟩
    rw [Bool.eq_iff_iff, upward_iff, beq_iff_eq]
    constructor
    · intro e
      have := (norm_is_rising p n f fun u hu => (ht u hu).2).1
      rwa [e] at this
    · intro hr
      exact norm_rising p f hr fun t h => (ht t h).1
/-! ### a row cut into terms -/
def cuts (k : Nat) : Nat → List Nat → List Term
  | 0, _ => []
  | i + 1, l => ⟨l.headD 0, (l.drop 1).take k⟩ :: cuts k i (l.drop (k + 1))
theorem cut_eq (k : Nat) : ∀ (m fuel : Nat) (l : List Nat), l.length = m * (k + 1) → m ≤ fuel → cut k fuel l = some (cuts k m l)
  | 0, fuel, l, h, _ => by
    have : l = [] := List.length_eq_zero_iff.mp (by simpa using h)
    subst this
    cases fuel <;> rfl
  | m + 1, 0, l, _, h => by omega
  | m + 1, fuel + 1, [], h, _ => by
    rw [Nat.succ_mul] at h
    simp at h
  | m + 1, fuel + 1, c :: l, h, hf => by
    rw [Nat.succ_mul, List.length_cons] at h
    have hl : l.length = m * (k + 1) + k := by omega
    unfold cut
    rw [if_neg (by omega), cut_eq k m fuel (l.drop k) (by rw [List.length_drop]; omega) (by omega)]
    rfl
theorem cut_none (k : Nat) : ∀ (fuel : Nat) (l : List Nat), l.length % (k + 1) ≠ 0 → l.length ≤ fuel → cut k fuel l = none
  | _, [], h, _ => by simp at h
  | 0, _ :: _, _, h => by simp at h
  | fuel + 1, c :: l, h, hf => by
    rw [List.length_cons] at h hf
    unfold cut
    by_cases hk : l.length < k
    · rw [if_pos hk]
    · rw [if_neg hk, cut_none k fuel (l.drop k) _ (by rw [List.length_drop]; omega)]
      · rfl
      · rw [List.length_drop]
        intro e
        apply h
        have : l.length + 1 = (l.length - k) + (k + 1) := by omega
        rw [this, Nat.add_mod_right]
        exact e
/-- what readPoly says -/
theorem readPoly_eq (p n : Nat) (l : List Nat) : readPoly p n l = if l.length % (n + 1) = 0 ∧ ((cuts n (l.length / (n + 1)) l).all (okTerm p n) && upward (cuts n (l.length / (n + 1)) l)) = true then some (cuts n (l.length / (n + 1)) l) else none := by
  unfold readPoly
  by_cases h : l.length % (n + 1) = 0
  · have hm : l.length = l.length / (n + 1) * (n + 1) := by
      have := Nat.div_add_mod l.length (n + 1)
      rw [h, Nat.add_zero, Nat.mul_comm] at this
      exact this.symm
    rw [cut_eq n (l.length / (n + 1)) l.length l hm (Nat.div_le_self _ _)]
    dsimp only
    rw [okPoly_eq]
    by_cases c : ((cuts n (l.length / (n + 1)) l).all (okTerm p n) && upward (cuts n (l.length / (n + 1)) l)) = true
    · rw [if_pos c, if_pos ⟨h, c⟩]
    · rw [if_neg c, if_neg fun z => c z.2]
  · rw [cut_none n l.length l h (Nat.le_refl _), if_neg fun z => h z.1]
theorem cuts_length (k : Nat) : ∀ (m : Nat) (l : List Nat), (cuts k m l).length = m
  | 0, _ => rfl
  | m + 1, l => by
    unfold cuts
    rw [List.length_cons, cuts_length k m]
theorem cuts_get (k : Nat) : ∀ (m i : Nat) (l : List Nat), i < m → (cuts k m l)[i]? = some ⟨(l.drop (i * (k + 1))).headD 0, (l.drop (i * (k + 1) + 1)).take k⟩
  | 0, i, l, h => by omega
  | m + 1, 0, l, h => by
    unfold cuts
    simp
  | m + 1, i + 1, l, h => by
    unfold cuts
    rw [List.getElem?_cons_succ, cuts_get k m i _ (by omega), List.drop_drop, List.drop_drop, Nat.succ_mul, Nat.add_comm (k + 1) (i * (k + 1)), ← Nat.add_assoc (k + 1), Nat.add_comm (k + 1) (i * (k + 1))]
end KM
namespace KM
open Kzt1 (inv freed simple)

/-! ### sums below a bound -/
def sumTo (f : Nat → Nat) : Nat → Nat
  | 0 => 0
  | w + 1 => sumTo f w + f w
theorem sumTo_congr {f g : Nat → Nat} : ∀ {w : Nat}, (∀ m < w, f m = g m) → sumTo f w = sumTo g w
  | 0, _ => rfl
  | w + 1, h => by
    show sumTo f w + f w = sumTo g w + g w
    rw [sumTo_congr (fun m hm => h m (by omega)), h w (by omega)]
theorem sumTo_mod {p : Nat} {f g : Nat → Nat} : ∀ {w : Nat}, (∀ m < w, f m % p = g m % p) → sumTo f w % p = sumTo g w % p
  | 0, _ => rfl
  | w + 1, h => by
    show (sumTo f w + f w) % p = (sumTo g w + g w) % p
    rw [Nat.add_mod, sumTo_mod (fun m hm => h m (by omega)), h w (by omega), ← Nat.add_mod]
theorem sumTo_add (f g : Nat → Nat) : ∀ w : Nat, sumTo (fun m => f m + g m) w = sumTo f w + sumTo g w
  | 0 => rfl
  | w + 1 => by
    show sumTo (fun m => f m + g m) w + (f w + g w) = (sumTo f w + f w) + (sumTo g w + g w)
    rw [sumTo_add f g w]
    omega
theorem sumTo_mul (a : Nat) (f : Nat → Nat) : ∀ w : Nat, sumTo (fun m => a * f m) w = a * sumTo f w
  | 0 => rfl
  | w + 1 => by
    show sumTo (fun m => a * f m) w + a * f w = a * (sumTo f w + f w)
    rw [sumTo_mul a f w, Nat.mul_add]
theorem sumTo_zero {f : Nat → Nat} : ∀ {w : Nat}, (∀ m < w, f m = 0) → sumTo f w = 0
  | 0, _ => rfl
  | w + 1, h => by
    show sumTo f w + f w = 0
    rw [sumTo_zero (fun m hm => h m (by omega)), h w (by omega)]
theorem sumTo_one {f : Nat → Nat} {i : Nat} : ∀ {w : Nat}, (∀ m < w, m ≠ i → f m = 0) → i < w → sumTo f w = f i
  | 0, _, h => by omega
  | w + 1, h, hi => by
    show sumTo f w + f w = f i
    by_cases e : i = w
    · subst e
      rw [sumTo_zero (fun m hm => h m (by omega) (by omega)), Nat.zero_add]
    · rw [sumTo_one (fun m hm hne => h m (by omega) hne) (by omega), h w (by omega) (fun z => e z.symm), Nat.add_zero]
theorem sumTo_two {f : Nat → Nat} {i j : Nat} : ∀ {w : Nat}, (∀ m < w, m ≠ i → m ≠ j → f m = 0) → i < j → j < w → sumTo f w = f i + f j
  | 0, _, _, h => by omega
  | w + 1, h, hij, hj => by
    show sumTo f w + f w = f i + f j
    by_cases e : j = w
    · subst e
      rw [sumTo_one (i := i) (fun m hm hne => h m (by omega) hne (by omega)) hij]
    · rw [sumTo_two (i := i) (j := j) (fun m hm h1 h2 => h m (by omega) h1 h2) hij (by omega), h w (by omega) (by omega) (fun z => e z.symm), Nat.add_zero]
/-- what is 0 from k on -/
theorem sumTo_cut {f : Nat → Nat} {k : Nat} : ∀ {w : Nat}, (∀ m < w, k ≤ m → f m = 0) → k ≤ w → sumTo f w = sumTo f k
  | 0, _, h => by
    have : k = 0 := by omega
    subst this
    rfl
  | w + 1, h, hk => by
    by_cases e : k = w + 1
    · rw [e]
    · show sumTo f w + f w = sumTo f k
      rw [sumTo_cut (fun m hm hkm => h m (by omega) hkm) (by omega), h w (by omega) (by omega), Nat.add_zero]

/-! ### rows, and what they make nought -/
def dot (w : Nat) (r : List Nat) (c : Nat → Nat) : Nat := sumTo (fun m => r.getD m 0 * c m) w
def Kills (p w : Nat) (c : Nat → Nat) (r : List Nat) : Prop := dot w r c % p = 0
structure RowOk (p w : Nat) (r : List Nat) : Prop where
  len : r.length = w
  lt : ∀ m, r.getD m 0 < p
def Pr (p : Nat) : Prop := p = 2 ∨ p = 3 ∨ p = 5 ∨ p = 7
theorem Pr.pos {p : Nat} (h : Pr p) : 0 < p := by
  rcases h with h | h | h | h <;> omega
theorem inv_ok {p : Nat} (hp : Pr p) : ∀ a < p, a ≠ 0 → a * inv p a % p = 1 := by
  rcases hp with rfl | rfl | rfl | rfl <;> decide
theorem getD_map_lt {f : Nat → Nat} {r : List Nat} {m : Nat} (h : m < r.length) : (r.map f).getD m 0 = f (r.getD m 0) := by
  simp [List.getD, h]
theorem getD_out {r : List Nat} {m : Nat} (h : r.length ≤ m) : r.getD m 0 = 0 := by
  simp [List.getD, h]
theorem freed_get {p j w : Nat} {r s : List Nat} (hr : r.length = w) (hs : s.length = w) {m : Nat} (hm : m < w) : (freed p j r s).getD m 0 = (s.getD m 0 + (p - s.getD j 0) * r.getD m 0) % p := by
  unfold freed
  dsimp only
  have h1 : m < s.length := by omega
  have h2 : m < r.length := by omega
  have e : (s.zip r)[m]? = some (s[m], r[m]) := List.getElem?_zip_eq_some.mpr ⟨List.getElem?_eq_getElem h1, List.getElem?_eq_getElem h2⟩
  simp [List.getD, h1, h2, List.getElem?_map, e]
theorem freed_len {p j w : Nat} {r s : List Nat} (hr : r.length = w) (hs : s.length = w) : (freed p j r s).length = w := by
  unfold freed
  dsimp only
  rw [List.length_map, List.length_zip]
  omega
theorem freed_ok {p j w : Nat} {r s : List Nat} (hp : 0 < p) (hr : RowOk p w r) (hs : RowOk p w s) : RowOk p w (freed p j r s) := by
  refine ⟨freed_len hr.len hs.len, fun m => ?_⟩
  by_cases h : m < w
  · rw [freed_get hr.len hs.len h]
    exact Nat.mod_lt _ hp
  · rw [getD_out (by rw [freed_len hr.len hs.len]; omega)]
    exact hp
theorem dot_freed {p j w : Nat} {r s : List Nat} (hr : r.length = w) (hs : s.length = w) (c : Nat → Nat) : dot w (freed p j r s) c % p = (dot w s c + (p - s.getD j 0) * dot w r c) % p := by
  unfold dot
  rw [← sumTo_mul, ← sumTo_add]
  apply sumTo_mod
  intro m hm
  rw [freed_get hr hs hm, Nat.mod_mul_mod, Nat.add_mul, Nat.mul_assoc]
theorem scaled_get {p v : Nat} {r : List Nat} {m : Nat} (h : m < r.length) : (r.map fun x => x * v % p).getD m 0 = r.getD m 0 * v % p := getD_map_lt (f := fun x => x * v % p) h
theorem scaled_ok {p v w : Nat} {r : List Nat} (hp : 0 < p) (hr : RowOk p w r) : RowOk p w (r.map fun x => x * v % p) := by
  refine ⟨by rw [List.length_map]; exact hr.len, fun m => ?_⟩
  by_cases h : m < r.length
  · rw [scaled_get h]
    exact Nat.mod_lt _ hp
  · rw [getD_out (by rw [List.length_map]; omega)]
    exact hp
theorem dot_scaled {p v w : Nat} {r : List Nat} (hr : r.length = w) (c : Nat → Nat) : dot w (r.map fun x => x * v % p) c % p = (v * dot w r c) % p := by
  unfold dot
  rw [← sumTo_mul]
  apply sumTo_mod
  intro m hm
  rw [scaled_get (by omega), Nat.mod_mul_mod, Nat.mul_comm (r.getD m 0) v, Nat.mul_assoc]
theorem kills_zero {p w : Nat} {r : List Nat} {c : Nat → Nat} (h : ∀ m < w, r.getD m 0 = 0) : Kills p w c r := by
  unfold Kills dot
  rw [sumTo_zero (fun m hm => by rw [h m hm, Nat.zero_mul])]
  exact Nat.zero_mod _
theorem kills_freed {p j w : Nat} {r s : List Nat} (hr : r.length = w) (hs : s.length = w) {c : Nat → Nat} (kr : Kills p w c r) : Kills p w c (freed p j r s) ↔ Kills p w c s := by
  unfold Kills at kr ⊢
  rw [dot_freed hr hs, Nat.add_mod, Nat.mul_mod, kr, Nat.mul_zero, Nat.zero_mod, Nat.add_zero, Nat.mod_mod]
theorem kills_scaled {p v w a : Nat} {r : List Nat} (hr : r.length = w) {c : Nat → Nat} (ha : a * v % p = 1) : Kills p w c (r.map fun x => x * v % p) ↔ Kills p w c r := by
  unfold Kills
  rw [dot_scaled hr]
  constructor
  · intro h
    have h1 : (a * (v * dot w r c)) % p = 0 := by rw [Nat.mul_mod, h, Nat.mul_zero, Nat.zero_mod]
    rw [← Nat.mul_assoc, Nat.mul_mod, ha, Nat.one_mul, Nat.mod_mod] at h1
    exact h1
  · intro h
    rw [Nat.mul_mod, h, Nat.mul_zero, Nat.zero_mod]

/-! ### the rows made simple -/
structure Piv (p w b : Nat) (z : Nat × List Nat) : Prop where
  row : RowOk p w z.2
  col : z.1 < b
  one : z.2.getD z.1 0 = 1
  low : ∀ m < z.1, z.2.getD m 0 = 0
structure Ech (p w b : Nat) (l : List (List Nat)) (k : List (Nat × List Nat)) : Prop where
  rows : ∀ r ∈ l, RowOk p w r
  zero : ∀ r ∈ l, ∀ m < b, r.getD m 0 = 0
  piv : ∀ z ∈ k, Piv p w b z
  off : ∀ z ∈ k, ∀ y ∈ k, z.1 ≠ y.1 → z.2.getD y.1 0 = 0
  uniq : ∀ z ∈ k, ∀ y ∈ k, z.1 = y.1 → z = y
theorem mem_eraseIdx_or {α : Type} [Inhabited α] : ∀ {l : List α} {a : Nat} {x d : α}, x ∈ l → a < l.length → x = l.getD a d ∨ x ∈ l.eraseIdx a
  | y :: l, 0, x, d, h, _ => by
    rcases List.mem_cons.mp h with h | h
    · exact .inl (by simp [h])
    · exact .inr (by simpa using h)
  | y :: l, a + 1, x, d, h, ha => by
    rcases List.mem_cons.mp h with h | h
    · exact .inr (by simp [h])
    · rcases mem_eraseIdx_or (d := d) h (by simpa using ha) with e | e
      · exact .inl (by simpa using e)
      · exact .inr (by simp [e])
theorem simple_ech {p w : Nat} (hp : Pr p) : ∀ (i : Nat) (l : List (List Nat)) (k : List (Nat × List Nat)), i ≤ w → Ech p w (w - i) l k →
    (∃ l', Ech p w w l' (simple p w i l k)) ∧ ∀ c : Nat → Nat, ((∀ r ∈ l, Kills p w c r) ∧ (∀ z ∈ k, Kills p w c z.2)) ↔ ∀ z ∈ simple p w i l k, Kills p w c z.2
  | 0, l, k, _, h => by
    refine ⟨⟨l, h⟩, fun c => ⟨fun q => q.2, fun q => ⟨fun r hr => kills_zero (h.zero r hr), q⟩⟩⟩
  | i + 1, l, k, hi, h => by
    have hpos := hp.pos
    unfold simple
    dsimp only
    have hj : w - (i + 1) < w := by omega
    have hb : w - i = w - (i + 1) + 1 := by omega
    generalize hjd : w - (i + 1) = j at *
    cases hf : l.findIdx? (fun r => r.getD j 0 != 0) with
    | none =>
      have hz : ∀ r ∈ l, r.getD j 0 = 0 := fun r hr => by
        have := List.findIdx?_eq_none_iff.mp hf r hr
        simpa using this
      refine simple_ech hp i l k (by omega) ⟨h.rows, fun r hr m hm => ?_, fun z hz => ?_, h.off, h.uniq⟩
      · by_cases e : m = j
        · subst e
          exact hz r hr
        · exact h.zero r hr m (by omega)
      · have q := h.piv z hz
        exact ⟨q.row, by have := q.col; omega, q.one, q.low⟩
    | some a =>
      dsimp only
      obtain ⟨ha, hra, _⟩ := List.findIdx?_eq_some_iff_getElem.mp hf
      have er : l.getD a [] = l[a] := by simp [List.getD, ha]
      rw [er]
      have hmem : l[a] ∈ l := List.getElem_mem ha
      generalize hrd : l[a] = r at *
      have hrow := h.rows r hmem
      have hrj : r.getD j 0 ≠ 0 := by simpa using hra
      have hv : r.getD j 0 * inv p (r.getD j 0) % p = 1 := inv_ok hp _ (hrow.lt j) hrj
      generalize inv p (r.getD j 0) = v at *
      have hu : RowOk p w (r.map fun x => x * v % p) := scaled_ok hpos hrow
      have uj : (r.map fun x => x * v % p).getD j 0 = 1 := by
        rw [scaled_get (by rw [hrow.len]; exact hj)]
        exact hv
      have ulow : ∀ m < j, (r.map fun x => x * v % p).getD m 0 = 0 := fun m hm => by
        rw [scaled_get (by rw [hrow.len]; omega), h.zero r hmem m hm, Nat.zero_mul, Nat.zero_mod]
      have kscale : ∀ c : Nat → Nat, Kills p w c (r.map fun x => x * v % p) ↔ Kills p w c r := fun c => kills_scaled hrow.len hv
      generalize (r.map fun x => x * v % p) = u at *
      -- a freed row
      have flow : ∀ s : List Nat, RowOk p w s → ∀ m < j, (freed p j u s).getD m 0 = s.getD m 0 := fun s hs m hm => by
        rw [freed_get hu.len hs.len (by omega), ulow m hm, Nat.mul_zero, Nat.add_zero, Nat.mod_eq_of_lt (hs.lt m)]
      have fj : ∀ s : List Nat, RowOk p w s → (freed p j u s).getD j 0 = 0 := fun s hs => by
        rw [freed_get hu.len hs.len hj, uj, Nat.mul_one]
        have := hs.lt j
        rw [show s.getD j 0 + (p - s.getD j 0) = p by omega, Nat.mod_self]
      have hl' : ∀ s ∈ l.eraseIdx a, s ∈ l := fun s hs => List.mem_of_mem_eraseIdx hs
      have hech : Ech p w (w - i) ((l.eraseIdx a).map (freed p j u)) ((k.map fun y => (y.1, freed p j u y.2)) ++ [(j, u)]) := by
        refine ⟨?_, ?_, ?_, ?_, ?_⟩
        · intro s hs
          obtain ⟨t, ht, rfl⟩ := List.mem_map.mp hs
          exact freed_ok hpos hu (h.rows t (hl' t ht))
        · intro s hs m hm
          obtain ⟨t, ht, rfl⟩ := List.mem_map.mp hs
          have hto := h.rows t (hl' t ht)
          by_cases e : m = j
          · subst e
            exact fj t hto
          · rw [flow t hto m (by omega)]
            exact h.zero t (hl' t ht) m (by omega)
        · intro z hz
          rcases List.mem_append.mp hz with hz | hz
          · obtain ⟨y, hy, rfl⟩ := List.mem_map.mp hz
            have q := h.piv y hy
            refine ⟨freed_ok hpos hu q.row, by have := q.col; show y.1 < w - i; omega, ?_, fun m hm => ?_⟩
            · show (freed p j u y.2).getD y.1 0 = 1
              rw [flow y.2 q.row y.1 q.col]
              exact q.one
            · show (freed p j u y.2).getD m 0 = 0
              have hm : m < y.1 := hm
              have := q.col
              rw [flow y.2 q.row m (by omega)]
              exact q.low m hm
          · rw [List.mem_singleton.mp hz]
            exact ⟨hu, by show j < w - i; omega, uj, ulow⟩
        · intro z hz y hy hne
          rcases List.mem_append.mp hz with hz | hz
          · obtain ⟨z', hz', rfl⟩ := List.mem_map.mp hz
            have q := h.piv z' hz'
            rcases List.mem_append.mp hy with hy | hy
            · obtain ⟨y', hy', rfl⟩ := List.mem_map.mp hy
              show (freed p j u z'.2).getD y'.1 0 = 0
              rw [flow z'.2 q.row y'.1 (h.piv y' hy').col]
              exact h.off z' hz' y' hy' hne
            · rw [List.mem_singleton.mp hy]
              exact fj z'.2 q.row
          · rw [List.mem_singleton.mp hz] at hne ⊢
            rcases List.mem_append.mp hy with hy | hy
            · obtain ⟨y', hy', rfl⟩ := List.mem_map.mp hy
              exact ulow y'.1 (h.piv y' hy').col
            · rw [List.mem_singleton.mp hy] at hne
              exact absurd rfl hne
        · intro z hz y hy e
          rcases List.mem_append.mp hz with hz | hz
          · obtain ⟨z', hz', rfl⟩ := List.mem_map.mp hz
            rcases List.mem_append.mp hy with hy | hy
            · obtain ⟨y', hy', rfl⟩ := List.mem_map.mp hy
              rw [h.uniq z' hz' y' hy' e]
            · rw [List.mem_singleton.mp hy] at e
              have := (h.piv z' hz').col
              have e : z'.1 = j := e
              omega
          · rw [List.mem_singleton.mp hz] at e ⊢
            rcases List.mem_append.mp hy with hy | hy
            · obtain ⟨y', hy', rfl⟩ := List.mem_map.mp hy
              have := (h.piv y' hy').col
              have e : j = y'.1 := e
              omega
            · rw [List.mem_singleton.mp hy]
      obtain ⟨h1, h2⟩ := simple_ech hp i _ _ (by omega) hech
      refine ⟨h1, fun c => Iff.trans ?_ (h2 c)⟩
      constructor
      · rintro ⟨q1, q2⟩
        have ku : Kills p w c u := (kscale c).mpr (q1 r hmem)
        refine ⟨fun s hs => ?_, fun z hz => ?_⟩
        · obtain ⟨t, ht, rfl⟩ := List.mem_map.mp hs
          exact (kills_freed hu.len (h.rows t (hl' t ht)).len ku).mpr (q1 t (hl' t ht))
        · rcases List.mem_append.mp hz with hz | hz
          · obtain ⟨y, hy, rfl⟩ := List.mem_map.mp hz
            exact (kills_freed hu.len (h.piv y hy).row.len ku).mpr (q2 y hy)
          · rw [List.mem_singleton.mp hz]
            exact ku
      · rintro ⟨q1, q2⟩
        have ku : Kills p w c u := q2 (j, u) (by simp)
        refine ⟨fun s hs => ?_, fun z hz => ?_⟩
        · rcases mem_eraseIdx_or (d := []) hs ha with e | e
          · rw [e, er]
            exact (kscale c).mp ku
          · exact (kills_freed hu.len (h.rows s hs).len ku).mp (q1 _ (List.mem_map.mpr ⟨s, e, rfl⟩))
        · exact (kills_freed hu.len (h.piv z hz).row.len ku).mp (q2 (z.1, freed p j u z.2) (List.mem_append.mpr (.inl (List.mem_map.mpr ⟨z, hz, rfl⟩))))
end KM
namespace KM
open Kzt1 (inv freed simple coords value row nullOf norm Term)

/-- a term's value at a point -/
def ev (p n : Nat) (e : List Nat) (x : Nat) : Nat := value p [⟨1, e⟩] (coords p n x)
theorem ev_lt {p n : Nat} {e : List Nat} {x : Nat} (hp : 0 < p) : ev p n e x < p := Nat.mod_lt _ hp
theorem row_get {p n : Nat} {ms : List (List Nat)} {x m : Nat} (h : m < ms.length) : (row p n ms x).getD m 0 = ev p n (ms.getD m []) x := by
  unfold row ev
  simp [List.getD, h]
theorem row_ok {p n : Nat} {ms : List (List Nat)} {x : Nat} (hp : 0 < p) : RowOk p ms.length (row p n ms x) := by
  have hl : (row p n ms x).length = ms.length := by
    unfold row
    rw [List.length_map]
  refine ⟨hl, fun m => ?_⟩
  by_cases h : m < ms.length
  · rw [row_get h]
    exact ev_lt hp
  · rw [getD_out (by rw [hl]; omega)]
    exact hp
/-- the terms up to the j-th one, that one with factor 1, come to 0 on the set -/
structure Nought (p n : Nat) (ms : List (List Nat)) (s : List Nat) (j : Nat) (c : Nat → Nat) : Prop where
  one : c j = 1
  lt : ∀ m, c m < p
  off : ∀ m, j < m → c m = 0
  nought : ∀ x ∈ s, sumTo (fun m => ev p n (ms.getD m []) x * c m) ms.length % p = 0
theorem Nought.kills {p n : Nat} {ms : List (List Nat)} {s : List Nat} {j : Nat} {c : Nat → Nat} (h : Nought p n ms s j c) : ∀ r ∈ s.map (row p n ms), Kills p ms.length c r := by
  intro r hr
  obtain ⟨x, hx, rfl⟩ := List.mem_map.mp hr
  have := h.nought x hx
  unfold Kills dot
  refine Eq.trans ?_ this
  congr 1
  apply sumTo_congr
  intro m hm
  rw [row_get hm]
theorem nought_of {p n : Nat} {ms : List (List Nat)} {s : List Nat} {j : Nat} {c : Nat → Nat} (one : c j = 1) (lt : ∀ m, c m < p) (off : ∀ m, j < m → c m = 0) (h : ∀ r ∈ s.map (row p n ms), Kills p ms.length c r) : Nought p n ms s j c := by
  refine ⟨one, lt, off, fun x hx => ?_⟩
  have := h _ (List.mem_map.mpr ⟨x, hx, rfl⟩)
  unfold Kills dot at this
  refine Eq.trans ?_ this
  congr 1
  apply sumTo_congr
  intro m hm
  rw [row_get hm]
section
variable {p w : Nat} {l' : List (List Nat)} {K : List (Nat × List Nat)}
def isPiv (K : List (Nat × List Nat)) (j : Nat) : Bool := K.any fun y => y.1 == j
theorem isPiv_iff {j : Nat} : isPiv K j = true ↔ ∃ z ∈ K, z.1 = j := by
  unfold isPiv
  rw [List.any_eq_true]
  simp
/-- where a row is nought, the last one's place is no pivot -/
theorem not_piv (hp : Pr p) (E : Ech p w w l' K) {c : Nat → Nat} {j : Nat} (one : c j = 1) (off : ∀ m, j < m → c m = 0) (h : ∀ z ∈ K, Kills p w c z.2) : isPiv K j = false := by
  cases e : isPiv K j with
  | false => rfl
  | true =>
    obtain ⟨z, hz, rfl⟩ := isPiv_iff.mp e
    have q := E.piv z hz
    have k := h z hz
    unfold Kills dot at k
    rw [sumTo_one (i := z.1) (fun m hm hne => ?_) q.col, q.one, one] at k
    · rcases hp with rfl | rfl | rfl | rfl <;> simp at k
    · rcases Nat.lt_or_ge m z.1 with c1 | c1
      · rw [q.low m c1, Nat.zero_mul]
      · rw [off m (by omega), Nat.mul_zero]
/-- what it is ahead of the last one's place -/
theorem coef_eq (hp : Pr p) (E : Ech p w w l' K) {c : Nat → Nat} {j : Nat} (hj : j < w) (one : c j = 1) (lt : ∀ m, c m < p) (off : ∀ m, j < m → c m = 0) (h : ∀ z ∈ K, Kills p w c z.2) (all : ∀ i < j, isPiv K i = true)
    {z : Nat × List Nat} (hz : z ∈ K) (hlt : z.1 < j) : c z.1 = (p - z.2.getD j 0 % p) % p := by
  have q := E.piv z hz
  have k := h z hz
  unfold Kills dot at k
  rw [sumTo_two (i := z.1) (j := j) (fun m hm h1 h2 => ?_) hlt hj, q.one, one, Nat.one_mul, Nat.mul_one] at k
  · have l1 := lt z.1
    have l2 := q.row.lt j
    rw [Nat.mod_eq_of_lt l2]
    generalize c z.1 = a at *
    generalize z.2.getD j 0 = b at *
    by_cases e : b = 0
    · subst e
      rw [Nat.add_zero, Nat.mod_eq_of_lt l1] at k
      rw [k, Nat.sub_zero, Nat.mod_self]
    · rw [Nat.mod_eq_of_lt (show p - b < p by omega)]
      rcases Nat.lt_or_ge (a + b) p with c1 | c1
      · rw [Nat.mod_eq_of_lt c1] at k
        omega
      · have e2 : (a + b) % p = a + b - p := by
          rw [Nat.mod_eq_sub_mod c1, Nat.mod_eq_of_lt (by omega)]
        omega
  · rcases Nat.lt_or_ge m j with c1 | c1
    · obtain ⟨y, hy, rfl⟩ := isPiv_iff.mp (all m c1)
      rw [E.off z hz y hy (fun e => h1 e.symm), Nat.zero_mul]
    · rw [off m (by omega), Nat.mul_zero]
/-- the one that is told: the first free place has 1, the pivots ahead of it what makes all nought -/
def sol (p : Nat) (K : List (Nat × List Nat)) (j m : Nat) : Nat := if m = j then 1 else match K.find? fun z => z.1 == m with
  | some z => (p - z.2.getD j 0 % p) % p
  | none => 0
theorem find_piv {m : Nat} (h : isPiv K m = true) : ∃ z ∈ K, z.1 = m ∧ (K.find? fun z => z.1 == m) = some z := by
  cases e : K.find? fun z => z.1 == m with
  | none =>
    obtain ⟨z, hz, q⟩ := isPiv_iff.mp h
    have := List.find?_eq_none.mp e z hz
    simp [q] at this
  | some z =>
    have h1 := List.mem_of_find?_eq_some e
    have h2 := List.find?_some e
    exact ⟨z, h1, by simpa using h2, rfl⟩
theorem find_free {m : Nat} (h : isPiv K m = false) : (K.find? fun z => z.1 == m) = none := by
  rw [List.find?_eq_none]
  intro z hz e
  have : isPiv K m = true := isPiv_iff.mpr ⟨z, hz, by simpa using e⟩
  rw [h] at this
  cases this
theorem sol_off (hp : Pr p) (E : Ech p w w l' K) {j m : Nat} (h : j < m) : sol p K j m = 0 := by
  unfold sol
  rw [if_neg (by omega)]
  cases e : isPiv K m with
  | false => rw [find_free e]
  | true =>
    obtain ⟨z, hz, hm, ez⟩ := find_piv e
    rw [ez]
    dsimp only
    rw [(E.piv z hz).low j (by omega), Nat.zero_mod, Nat.sub_zero, Nat.mod_self]
theorem sol_lt (hp : Pr p) {j m : Nat} : sol p K j m < p := by
  unfold sol
  split
  · rcases hp with rfl | rfl | rfl | rfl <;> decide
  · split
    · exact Nat.mod_lt _ hp.pos
    · exact hp.pos
theorem sol_kills (hp : Pr p) (E : Ech p w w l' K) {j : Nat} (hj : j < w) (free : isPiv K j = false) (all : ∀ i < j, isPiv K i = true) : ∀ z ∈ K, Kills p w (sol p K j) z.2 := by
  intro z hz
  have q := E.piv z hz
  have hne : z.1 ≠ j := fun e => by
    have : isPiv K j = true := isPiv_iff.mpr ⟨z, hz, e⟩
    rw [free] at this
    cases this
  unfold Kills dot
  rcases Nat.lt_or_ge z.1 j with c1 | c1
  · rw [sumTo_two (i := z.1) (j := j) (fun m hm h1 h2 => ?_) c1 hj, q.one]
    · obtain ⟨y, hy, hm, ey⟩ := find_piv (K := K) (m := z.1) (isPiv_iff.mpr ⟨z, hz, rfl⟩)
      have e1 : sol p K j z.1 = (p - z.2.getD j 0 % p) % p := by
        unfold sol
        rw [if_neg hne, ey, E.uniq y hy z hz hm]
      have e2 : sol p K j j = 1 := if_pos rfl
      rw [e1, e2, Nat.one_mul, Nat.mul_one, Nat.mod_eq_of_lt (q.row.lt j), Nat.mod_add_mod]
      have := q.row.lt j
      rw [show p - z.2.getD j 0 + z.2.getD j 0 = p by omega, Nat.mod_self]
    · rcases Nat.lt_or_ge m j with c2 | c2
      · obtain ⟨y, hy, rfl⟩ := isPiv_iff.mp (all m c2)
        rw [E.off z hz y hy (fun e => h1 e.symm), Nat.zero_mul]
      · rw [sol_off hp E (by omega), Nat.mul_zero]
  · rw [sumTo_zero (fun m hm => ?_)]
    · exact Nat.zero_mod _
    · rcases Nat.lt_or_ge m z.1 with c2 | c2
      · rw [q.low m c2, Nat.zero_mul]
      · rw [sol_off hp E (by omega), Nat.mul_zero]
end
/-! ### the first that is nought on the set -/
theorem null_ech {p n : Nat} (hp : Pr p) (ms : List (List Nat)) (s : List Nat) : (∃ l', Ech p ms.length ms.length l' (simple p ms.length ms.length (s.map (row p n ms)) [])) ∧
    ∀ c : Nat → Nat, (∀ r ∈ s.map (row p n ms), Kills p ms.length c r) ↔ ∀ z ∈ simple p ms.length ms.length (s.map (row p n ms)) [], Kills p ms.length c z.2 := by
  have h0 : Ech p ms.length (ms.length - ms.length) (s.map (row p n ms)) [] := by
    refine ⟨fun r hr => ?_, fun r hr m hm => ?_, by simp, by simp, by simp⟩
    · obtain ⟨x, _, rfl⟩ := List.mem_map.mp hr
      exact row_ok hp.pos
    · omega
  obtain ⟨h1, h2⟩ := simple_ech hp ms.length _ _ (Nat.le_refl _) h0
  refine ⟨h1, fun c => Iff.trans ⟨fun q => ⟨q, by simp⟩, fun q => q.1⟩ (h2 c)⟩
theorem first_free {w : Nat} {K : List (Nat × List Nat)} {j : Nat} (h : ((List.range w).find? fun j => !(K.any fun y => y.1 == j)) = some j) : j < w ∧ isPiv K j = false ∧ ∀ i < j, isPiv K i = true := by
  rw [List.find?_range_eq_some] at h
  refine ⟨by simpa using h.2.1, by simpa [isPiv] using h.1, fun i hi => ?_⟩
  have := h.2.2 i hi
  simpa [isPiv] using this
theorem nullOf_some {p n : Nat} (hp : Pr p) {ms : List (List Nat)} {s : List Nat} {j : Nat} {c : Nat → Nat} (hj : j < ms.length) (hc : Nought p n ms s j c) (hmin : ∀ i < j, ∀ d, ¬ Nought p n ms s i d) :
    nullOf p n ms s = some (norm p (ms.zipIdx.map fun y => ⟨c y.2, y.1⟩)) := by
  obtain ⟨⟨l', E⟩, hk⟩ := null_ech (n := n) hp ms s
  unfold nullOf
  dsimp only
  generalize simple p ms.length ms.length (s.map (row p n ms)) [] = K at *
  have kc := (hk c).mp hc.kills
  have nj : isPiv K j = false := not_piv hp E hc.one hc.off kc
  cases hf : (List.range ms.length).find? fun j => !(K.any fun y => y.1 == j) with
  | none =>
    have := List.find?_eq_none.mp hf j (List.mem_range.mpr hj)
    have e : isPiv K j = true := by simpa [isPiv] using this
    rw [nj] at e
    cases e
  | some i =>
    obtain ⟨hi, fi, all⟩ := first_free hf
    have e : i = j := by
      rcases Nat.lt_trichotomy i j with q | q | q
      · refine absurd (nought_of (c := sol p K i) ?_ (fun m => sol_lt hp) (fun m hm => sol_off hp E hm) ((hk _).mpr (sol_kills hp E hi fi all))) (hmin i q _)
        exact if_pos rfl
      · exact q
      · have := all j q
        rw [nj] at this
        cases this
    subst e
    dsimp only
    congr 2
    apply List.map_congr_left
    intro y hy
    have hy2 : y.2 < ms.length := by
      have := List.mem_zipIdx hy
      omega
    congr 1
    show sol p K i y.2 = c y.2
    rcases Nat.lt_trichotomy y.2 i with q | q | q
    · obtain ⟨z, hz, hm, ez⟩ := find_piv (all y.2 q)
      have := coef_eq hp E hi hc.one hc.lt hc.off kc all hz (by omega)
      unfold sol
      rw [if_neg (by omega), ez, ← hm, this]
    · rw [q, hc.one]
      exact if_pos rfl
    · rw [sol_off hp E q, hc.off _ q]
theorem nullOf_none {p n : Nat} (hp : Pr p) {ms : List (List Nat)} {s : List Nat} (h : ∀ j < ms.length, ∀ c, ¬ Nought p n ms s j c) : nullOf p n ms s = none := by
  obtain ⟨⟨l', E⟩, hk⟩ := null_ech (n := n) hp ms s
  unfold nullOf
  dsimp only
  generalize simple p ms.length ms.length (s.map (row p n ms)) [] = K at *
  cases hf : (List.range ms.length).find? fun j => !(K.any fun y => y.1 == j) with
  | none => rfl
  | some i =>
    obtain ⟨hi, fi, all⟩ := first_free hf
    refine absurd (nought_of (c := sol p K i) ?_ (fun m => sol_lt hp) (fun m hm => sol_off hp E hm) ((hk _).mpr (sol_kills hp E hi fi all))) (h i hi _)
    exact if_pos rfl
end KM
namespace KM
open Kzt1 (coords value row nullOf norm Term total before lexBefore put exps insertE monos leastOn least at1 degree powMod)

/-! ### all powers below p -/
theorem exps_mem {p : Nat} : ∀ {n : Nat} {e : List Nat}, e ∈ exps p n ↔ e.length = n ∧ ∀ a ∈ e, a < p
  | 0, e => by
    unfold exps
    constructor
    · intro h
      rw [List.mem_singleton.mp h]
      exact ⟨rfl, by simp⟩
    · intro h
      rw [List.length_eq_zero_iff.mp h.1]
      simp
  | n + 1, e => by
    unfold exps
    rw [List.mem_flatMap]
    constructor
    · rintro ⟨a, ha, h⟩
      obtain ⟨f, hf, rfl⟩ := List.mem_map.mp h
      obtain ⟨h1, h2⟩ := exps_mem.mp hf
      refine ⟨by rw [List.length_cons, h1], fun b hb => ?_⟩
      rcases List.mem_cons.mp hb with rfl | hb
      · exact List.mem_range.mp ha
      · exact h2 b hb
    · rintro ⟨h1, h2⟩
      cases e with
      | nil => simp at h1
      | cons a f =>
        refine ⟨a, List.mem_range.mpr (h2 a (by simp)), List.mem_map.mpr ⟨f, exps_mem.mpr ⟨by simpa using h1, fun b hb => h2 b (by simp [hb])⟩, rfl⟩⟩
theorem exps_nodup (p : Nat) : ∀ n : Nat, (exps p n).Nodup
  | 0 => by
    unfold exps
    simp
  | n + 1 => by
    unfold exps
    unfold List.Nodup
    rw [List.pairwise_flatMap]
    refine ⟨fun a _ => ?_, ?_⟩
    · rw [List.pairwise_map]
      exact List.Pairwise.imp (fun h e => h (List.cons.inj e).2) (exps_nodup p n)
    · refine List.Pairwise.imp ?_ List.nodup_range
      intro a b hab x hx y hy e
      obtain ⟨f, _, rfl⟩ := List.mem_map.mp hx
      obtain ⟨g, _, rfl⟩ := List.mem_map.mp hy
      exact hab (List.cons.inj e).1
theorem total_cons (a : Nat) (e : List Nat) : total (a :: e) = a + total e := by
  unfold total
  have key : ∀ (l : List Nat) (x : Nat), l.foldl (· + ·) x = x + l.foldl (· + ·) 0 := by
    intro l
    induction l with
    | nil => intro x; simp
    | cons b l ih =>
      intro x
      rw [List.foldl_cons, List.foldl_cons, ih, ih (0 + b)]
      omega
  rw [List.foldl_cons, key, Nat.zero_add]
theorem total_le {p : Nat} : ∀ {e : List Nat}, (∀ a ∈ e, a < p) → total e ≤ e.length * (p - 1)
  | [], _ => by simp [total]
  | a :: e, h => by
    have h1 := h a (by simp)
    have h2 := total_le (p := p) (e := e) fun b hb => h b (by simp [hb])
    rw [total_cons, List.length_cons, Nat.succ_mul]
    omega
/-! ### in order -/
def Sorted (l : List (List Nat)) : Prop := l.Pairwise fun a b => before a b = true
theorem insertE_mem {e : List Nat} : ∀ {l : List (List Nat)} {x : List Nat}, x ∈ insertE e l ↔ x = e ∨ x ∈ l
  | [], x => by
    unfold insertE
    simp
  | f :: l, x => by
    unfold insertE
    split
    · simp
    · rw [List.mem_cons, insertE_mem, List.mem_cons]
      constructor
      · rintro (h | h | h)
        · exact .inr (.inl h)
        · exact .inl h
        · exact .inr (.inr h)
      · rintro (h | h | h)
        · exact .inr (.inl h)
        · exact .inl h
        · exact .inr (.inr h)
theorem insertE_sorted {n : Nat} {e : List Nat} (he : e.length = n) : ∀ {l : List (List Nat)}, (∀ f ∈ l, f.length = n) → e ∉ l → Sorted l → Sorted (insertE e l)
  | [], _, _, _ => by
    unfold insertE
    exact List.pairwise_singleton _ _
  | f :: l, hl, hne, hs => by
    have hs' := List.pairwise_cons.mp hs
    unfold insertE
    split
    · next hb =>
      refine List.pairwise_cons.mpr ⟨fun x hx => ?_, hs⟩
      rcases List.mem_cons.mp hx with rfl | hx
      · exact hb
      · exact before_trans hb (hs'.1 x hx)
    · next hb =>
      refine List.pairwise_cons.mpr ⟨fun x hx => ?_, insertE_sorted he (fun g hg => hl g (by simp [hg])) (fun h => hne (by simp [h])) hs'.2⟩
      rcases insertE_mem.mp hx with rfl | hx
      · exact before_tri (by rw [he, hl f (by simp)]) (fun h => hne (by simp [h])) (Bool.eq_false_iff.mpr hb)
      · exact hs'.1 x hx
theorem sort_all {n : Nat} : ∀ {l : List (List Nat)}, (∀ f ∈ l, f.length = n) → l.Nodup → Sorted (l.foldr insertE []) ∧ ∀ x, x ∈ l.foldr insertE [] ↔ x ∈ l
  | [], _, _ => ⟨List.Pairwise.nil, by simp⟩
  | e :: l, hl, hn => by
    have hn' := List.nodup_cons.mp hn
    obtain ⟨h1, h2⟩ := sort_all (l := l) (fun f hf => hl f (by simp [hf])) hn'.2
    rw [List.foldr_cons]
    refine ⟨insertE_sorted (hl e (by simp)) (fun f hf => hl f (by simp [(h2 f).mp hf])) (fun h => hn'.1 ((h2 e).mp h)) h1, fun x => ?_⟩
    rw [insertE_mem, h2, List.mem_cons]
theorem monos_sorted (p n d : Nat) : Sorted (monos p n d) := (sort_all (n := n) (fun f hf => (exps_mem.mp (List.mem_filter.mp hf).1).1) ((exps_nodup p n).filter _)).1
theorem monos_mem {p n d : Nat} {e : List Nat} : e ∈ monos p n d ↔ (e.length = n ∧ ∀ a ∈ e, a < p) ∧ total e ≤ d := by
  unfold monos
  rw [(sort_all (n := n) (fun f hf => (exps_mem.mp (List.mem_filter.mp hf).1).1) ((exps_nodup p n).filter _)).2, List.mem_filter, exps_mem, decide_eq_true_eq]
theorem sorted_eq : ∀ {l m : List (List Nat)}, Sorted l → Sorted m → (∀ x, x ∈ l ↔ x ∈ m) → l = m
  | [], [], _, _, _ => rfl
  | [], y :: m, _, _, h => by
    have := (h y).mpr (by simp)
    cases this
  | x :: l, [], _, _, h => by
    have := (h x).mp (by simp)
    cases this
  | x :: l, y :: m, hl, hm, h => by
    have hl' := List.pairwise_cons.mp hl
    have hm' := List.pairwise_cons.mp hm
    have e : x = y := by
      rcases List.mem_cons.mp ((h x).mp (by simp)) with q | q
      · exact q
      · rcases List.mem_cons.mp ((h y).mpr (by simp)) with r | r
        · exact r.symm
        · have := before_asymm (hm'.1 x q)
          rw [hl'.1 y r] at this
          cases this
    subst e
    congr 1
    refine sorted_eq hl'.2 hm'.2 fun z => ?_
    constructor
    · intro hz
      rcases List.mem_cons.mp ((h z).mp (by simp [hz])) with q | q
      · subst q
        have := hl'.1 z hz
        rw [before_irrefl] at this
        cases this
      · exact q
    · intro hz
      rcases List.mem_cons.mp ((h z).mpr (by simp [hz])) with q | q
      · subst q
        have := hm'.1 z hz
        rw [before_irrefl] at this
        cases this
      · exact q
theorem monos_filter {p n d D : Nat} (h : d ≤ D) : monos p n d = (monos p n D).filter fun e => decide (total e ≤ d) := by
  refine sorted_eq (monos_sorted p n d) ((monos_sorted p n D).filter _) fun x => ?_
  rw [List.mem_filter, monos_mem, monos_mem, decide_eq_true_eq]
  constructor
  · intro q
    exact ⟨⟨q.1, by omega⟩, q.2⟩
  · intro q
    exact ⟨q.1.1, q.2⟩
theorem before_total {a b : List Nat} (h : before a b = true) : total a ≤ total b := by
  unfold before at h
  simp only [Bool.or_eq_true, decide_eq_true_eq, Bool.and_eq_true, beq_iff_eq] at h
  rcases h with h | h
  · omega
  · omega
theorem filter_prefix (d : Nat) : ∀ {M : List (List Nat)}, Sorted M → ∃ k ≤ M.length, (M.filter fun e => decide (total e ≤ d)) = M.take k ∧ ∀ i < M.length, (i < k ↔ total (M.getD i []) ≤ d)
  | [], _ => ⟨0, by simp, rfl, by simp⟩
  | e :: M, h => by
    have h' := List.pairwise_cons.mp h
    by_cases c : total e ≤ d
    · obtain ⟨k, hk, h1, h2⟩ := filter_prefix d h'.2
      refine ⟨k + 1, by simpa using hk, ?_, ?_⟩
      · rw [List.filter_cons_of_pos (by simpa using c), h1]
        rfl
      · intro i hi
        cases i with
        | zero =>
          constructor
          · intro _
            simpa using c
          · intro _
            omega
        | succ i =>
          have := h2 i (by simpa using hi)
          simpa using this
    · refine ⟨0, by simp, ?_, ?_⟩
      · rw [List.take_zero, List.filter_eq_nil_iff]
        intro x hx
        rcases List.mem_cons.mp hx with rfl | hx
        · simpa using c
        · have := before_total (h'.1 x hx)
          simp only [decide_eq_true_eq]
          omega
      · intro i hi
        refine ⟨fun z => by omega, fun z => ?_⟩
        exfalso
        have hm : (e :: M).getD i [] ∈ e :: M := by
          rw [List.getD_eq_getElem?_getD, List.getElem?_eq_getElem hi]
          exact List.getElem_mem hi
        rcases List.mem_cons.mp hm with q | q
        · rw [q] at z
          exact c z
        · have := before_total (h'.1 _ q)
          omega
theorem nought_take {p n : Nat} {M : List (List Nat)} {s : List Nat} {j k : Nat} {c : Nat → Nat} (hj : j < k) (hk : k ≤ M.length) : Nought p n (M.take k) s j c ↔ Nought p n M s j c := by
  have e : ∀ x : Nat, (∀ m, j < m → c m = 0) → sumTo (fun m => ev p n ((M.take k).getD m []) x * c m) (M.take k).length = sumTo (fun m => ev p n (M.getD m []) x * c m) M.length := fun x off => by
    rw [List.length_take, Nat.min_eq_left hk]
    rw [sumTo_cut (f := fun m => ev p n (M.getD m []) x * c m) (k := k) (fun m _ hm => by rw [off m (by omega), Nat.mul_zero]) hk]
    apply sumTo_congr
    intro m hm
    have : (M.take k).getD m [] = M.getD m [] := by
      simp [List.getD, List.getElem?_take, hm]
    rw [this]
  constructor
  · intro h
    exact ⟨h.one, h.lt, h.off, fun x hx => by rw [← e x h.off]; exact h.nought x hx⟩
  · intro h
    exact ⟨h.one, h.lt, h.off, fun x hx => by rw [e x h.off]; exact h.nought x hx⟩
/-! ### the least degree -/
theorem leastOn_some {p n : Nat} {s : List Nat} {d : Nat} {f : List Term} (hf : nullOf p n (monos p n d) s = some f) : ∀ (k d0 : Nat), d0 ≤ d → d < d0 + k → (∀ i, d0 ≤ i → i < d → nullOf p n (monos p n i) s = none) → leastOn p n s k d0 = some (d, f)
  | 0, d0, h1, h2, _ => by omega
  | k + 1, d0, h1, h2, h3 => by
    unfold leastOn
    by_cases e : d0 = d
    · subst e
      rw [hf]
    · rw [h3 d0 (Nat.le_refl _) (by omega)]
      exact leastOn_some hf k (d0 + 1) (by omega) (by omega) fun i h4 h5 => h3 i (by omega) h5
theorem leastOn_high {p n : Nat} {s : List Nat} {b : Nat} : ∀ (k d0 : Nat), (∀ i, d0 ≤ i → i < b → nullOf p n (monos p n i) s = none) → ∀ y, leastOn p n s k d0 = some y → b ≤ y.1
  | 0, d0, _, y, h => by
    unfold leastOn at h
    cases h
  | k + 1, d0, h3, y, h => by
    unfold leastOn at h
    by_cases e : d0 < b
    · rw [h3 d0 (Nat.le_refl _) e] at h
      exact leastOn_high k (d0 + 1) (fun i h4 h5 => h3 i (by omega) h5) y h
    · split at h
      · cases h
        show b ≤ d0
        omega
      · exact leastOn_high k (d0 + 1) (fun i h4 h5 => h3 i (by omega) h5) y h
/-- the terms that are told: those with a factor, up to the j-th one -/
def polyOf (M : List (List Nat)) (c : Nat → Nat) : List Term := (M.zipIdx.map fun y => (⟨c y.2, y.1⟩ : Term)).filter fun t => t.c != 0
theorem put_zero (p : Nat) (t : Term) (hc : t.c % p = 0) : ∀ f : List Term, (∀ u ∈ f, before u.e t.e = true) → put p t f = f
  | [], _ => by
    unfold put
    rw [if_pos hc]
  | u :: f, h => by
    have hu := h u (by simp)
    have hne : t.e ≠ u.e := fun e => by
      rw [e, before_irrefl] at hu
      cases hu
    unfold put
    rw [if_neg hne, before_asymm hu, if_neg Bool.false_ne_true, put_zero p t hc f (fun w hw => h w (by simp [hw]))]
theorem norm_zeros (p : Nat) (f : List Term) (hr : Rising f) (hc : ∀ t ∈ f, t.c < p) : norm p f = f.filter fun t => t.c != 0 := by
  have key : ∀ k ≤ f.length, norm p (f.take k) = (f.take k).filter fun t => t.c != 0 := by
    intro k
    induction k with
    | zero =>
      intro _
      rfl
    | succ k ih =>
      intro hk
      have hk' : k < f.length := by omega
      have hlt := hc _ (List.getElem_mem hk')
      have hb : ∀ u ∈ (f.take k).filter fun t => t.c != 0, before u.e f[k].e = true := by
        intro u hu
        obtain ⟨i, hi, rfl⟩ := List.mem_iff_getElem.mp (List.mem_filter.mp hu).1
        rw [List.length_take] at hi
        rw [List.getElem_take]
        exact List.pairwise_iff_getElem.mp hr i k (by omega) hk' (by omega)
      rw [List.take_succ_eq_append_getElem hk', norm_append, ih (by omega), List.filter_append]
      by_cases e : f[k].c = 0
      · rw [put_zero p f[k] (by rw [e, Nat.zero_mod]) _ hb]
        simp [e]
      · rw [put_last p f[k] (by rw [Nat.mod_eq_of_lt hlt]; exact e) _ hb, Nat.mod_eq_of_lt hlt]
        simp [e]
  have := key f.length (Nat.le_refl _)
  rwa [List.take_length] at this
theorem poly_rising {M : List (List Nat)} (h : Sorted M) (c : Nat → Nat) : Rising (M.zipIdx.map fun y => (⟨c y.2, y.1⟩ : Term)) := by
  unfold Rising
  rw [List.pairwise_iff_getElem]
  intro i j hi hj hij
  rw [List.length_map, List.length_zipIdx] at hi hj
  simp only [List.getElem_map, List.getElem_zipIdx]
  exact List.pairwise_iff_getElem.mp h i j hi hj hij
theorem polyOf_take {M : List (List Nat)} {c : Nat → Nat} {j k : Nat} (hj : j < M.length) (hk : j < k) (off : ∀ m, j < m → c m = 0) : polyOf (M.take k) c = polyOf (M.take (j + 1)) c := by
  have e : M.take k = M.take (j + 1) ++ (M.drop (j + 1)).take (k - (j + 1)) := by
    rw [← List.take_add]
    congr 1
    omega
  unfold polyOf
  rw [e, List.zipIdx_append, List.map_append, List.filter_append]
  have z : ((((M.drop (j + 1)).take (k - (j + 1))).zipIdx (0 + (M.take (j + 1)).length)).map fun y => (⟨c y.2, y.1⟩ : Term)).filter (fun t => t.c != 0) = [] := by
    rw [List.filter_eq_nil_iff]
    intro t ht
    obtain ⟨y, hy, rfl⟩ := List.mem_map.mp ht
    have h1 := (List.mem_zipIdx hy).1
    rw [List.length_take] at h1
    have q : c y.2 = 0 := off _ (by omega)
    simp [q]
  rw [z, List.append_nil]
theorem least_some {p n : Nat} (hp : Pr p) {D : Nat} {s : List Nat} {j : Nat} {c : Nat → Nat} (hj : j < (monos p n D).length) (hc : Nought p n (monos p n D) s j c) (hmin : ∀ i < j, ∀ d, ¬ Nought p n (monos p n D) s i d) :
    least p n s = some (total ((monos p n D).getD j []), polyOf ((monos p n D).take (j + 1)) c) := by
  have hmem : (monos p n D).getD j [] ∈ monos p n D := by
    rw [List.getD_eq_getElem?_getD, List.getElem?_eq_getElem hj]
    exact List.getElem_mem hj
  obtain ⟨⟨hl, hlt⟩, htot⟩ := monos_mem.mp hmem
  have hd : total ((monos p n D).getD j []) ≤ n * (p - 1) := by
    have := total_le hlt
    rwa [hl] at this
  unfold least
  generalize hdd : total ((monos p n D).getD j []) = d at *
  -- up to a degree
  have pre : ∀ i ≤ D, ∃ k ≤ (monos p n D).length, monos p n i = (monos p n D).take k ∧ ∀ m < (monos p n D).length, (m < k ↔ total ((monos p n D).getD m []) ≤ i) := fun i hi => by
    obtain ⟨k, hk, h1, h2⟩ := filter_prefix i (monos_sorted p n D)
    exact ⟨k, hk, (monos_filter hi).trans h1, h2⟩
  refine leastOn_some ?_ _ 0 (Nat.zero_le _) (by omega) fun i _ hi => ?_
  · obtain ⟨k, hk, h1, h2⟩ := pre d htot
    have hjk : j < k := (h2 j hj).mpr (by omega)
    rw [h1, nullOf_some hp (j := j) (c := c) (by rw [List.length_take]; omega) ((nought_take hjk hk).mpr hc) fun m hm e h => hmin m hm e ((nought_take (by omega) hk).mp h)]
    rw [norm_zeros p _ (poly_rising ((monos_sorted p n D).sublist (List.take_sublist _ _)) c) (fun t ht => ?_)]
    · congr 1
      exact polyOf_take hj hjk hc.off
    · obtain ⟨y, _, rfl⟩ := List.mem_map.mp ht
      exact hc.lt _
  · obtain ⟨k, hk, h1, h2⟩ := pre i (by omega)
    rw [h1]
    refine nullOf_none hp fun m hm e h => ?_
    rw [List.length_take] at hm
    have hmk : m < k := by omega
    have hmj : m < j := by
      rcases Nat.lt_or_ge m j with q | q
      · exact q
      · have q1 : ¬ j < k := fun z => by
          have := (h2 j hj).mp z
          omega
        omega
    exact hmin m hmj e ((nought_take hmk hk).mp h)
theorem least_high {p n : Nat} (hp : Pr p) {D : Nat} {s : List Nat} (h : ∀ j < (monos p n D).length, ∀ c, ¬ Nought p n (monos p n D) s j c) : ∀ y, least p n s = some y → D < y.1 := by
  intro y hy
  unfold least at hy
  refine leastOn_high (b := D + 1) _ 0 (fun i _ hi => ?_) y hy
  obtain ⟨k, hk, h1, h2⟩ := filter_prefix i (monos_sorted p n D)
  rw [monos_filter (show i ≤ D by omega), h1]
  refine nullOf_none hp fun m hm e q => ?_
  rw [List.length_take] at hm
  exact h m (by omega) e ((nought_take (by omega) hk).mp q)
/-! ### the highest terms at a point -/
theorem fold_mod (p : Nat) (hp : 0 < p) : ∀ (l : List (Nat × Nat)) (a : Nat), l.foldl (fun v y => v * powMod p y.2 y.1 % p) a % p = a * l.foldl (fun v y => v * powMod p y.2 y.1 % p) 1 % p
  | [], a => by simp
  | y :: l, a => by
    rw [List.foldl_cons, List.foldl_cons, fold_mod p hp l (a * powMod p y.2 y.1 % p), ← Nat.mul_mod_mod a (l.foldl _ (1 * powMod p y.2 y.1 % p)), fold_mod p hp l (1 * powMod p y.2 y.1 % p), Nat.one_mul, Nat.mod_mul_mod, Nat.mul_mod_mod, Nat.mul_assoc, ← Nat.mul_mod_mod a (powMod p y.2 y.1 % p * _), Nat.mod_mul_mod, Nat.mul_mod_mod]
def fv (p : Nat) (x : List Nat) (t : Term) : Nat := (t.e.zip x).foldl (fun v y => v * powMod p y.2 y.1 % p) t.c
theorem value_one (p : Nat) (e x : List Nat) : value p [⟨1, e⟩] x = fv p x ⟨1, e⟩ % p := by
  show (0 + fv p x ⟨1, e⟩) % p = _
  rw [Nat.zero_add]
theorem fv_mod (p : Nat) (hp : 0 < p) (x : List Nat) (t : Term) : fv p x t % p = t.c * value p [⟨1, t.e⟩] x % p := by
  rw [value_one]
  unfold fv
  rw [fold_mod p hp, Nat.mul_mod_mod]
theorem value_cons (p : Nat) (t : Term) (f : List Term) (x : List Nat) : value p (t :: f) x = (fv p x t + value p f x) % p := by
  have key : ∀ (l : List Nat) (a : Nat), l.foldl (· + ·) a = a + l.foldl (· + ·) 0 := by
    intro l
    induction l with
    | nil => intro a; simp
    | cons b l ih =>
      intro a
      rw [List.foldl_cons, List.foldl_cons, ih, ih (0 + b)]
      omega
  unfold value
  rw [List.map_cons, List.foldl_cons, key, Nat.zero_add, Nat.add_mod_mod]
  rfl
theorem value_append (p : Nat) (f g : List Term) (x : List Nat) : value p (f ++ g) x = (value p f x + value p g x) % p := by
  induction f with
  | nil =>
    show value p g x = (0 % p + value p g x) % p
    rw [Nat.zero_mod, Nat.zero_add]
    unfold value
    rw [Nat.mod_mod]
  | cons t f ih =>
    rw [List.cons_append, value_cons, ih, value_cons, Nat.add_mod_mod, Nat.mod_add_mod, Nat.add_assoc]
/-- the value of the terms that a test keeps -/
theorem value_kept {p n : Nat} (hp : 0 < p) (M : List (List Nat)) (c : Nat → Nat) (keep : List Nat → Bool) (x : Nat) : ∀ k ≤ M.length,
    value p ((polyOf (M.take k) c).filter fun t => keep t.e) (coords p n x) = sumTo (fun m => if keep (M.getD m []) = true then ev p n (M.getD m []) x * c m else 0) k % p
  | 0, _ => by
    simp [polyOf, sumTo, value]
  | k + 1, hk => by
    have hk' : k < M.length := by omega
    have ih := value_kept (n := n) hp M c keep x k (by omega)
    have e : polyOf (M.take (k + 1)) c = polyOf (M.take k) c ++ ([(⟨c k, M[k]⟩ : Term)].filter fun t => t.c != 0) := by
      unfold polyOf
      rw [List.take_succ_eq_append_getElem hk', List.zipIdx_append, List.map_append, List.filter_append]
      congr 1
      rw [List.length_take, Nat.min_eq_left (by omega), Nat.zero_add]
      rfl
    have eg : M.getD k [] = M[k] := by
      rw [List.getD_eq_getElem?_getD, List.getElem?_eq_getElem hk']
      rfl
    rw [e, List.filter_append, value_append, ih]
    show _ = (sumTo _ k + (if keep (M.getD k []) = true then ev p n (M.getD k []) x * c k else 0)) % p
    rw [Nat.mod_add_mod, eg]
    by_cases c0 : c k = 0
    · rw [c0]
      simp [value]
    · by_cases hk2 : keep M[k] = true
      · have : (([(⟨c k, M[k]⟩ : Term)].filter fun t => t.c != 0).filter fun t => keep t.e) = [⟨c k, M[k]⟩] := by
          simp [c0, hk2]
        rw [this, if_pos hk2]
        show (_ + (0 + fv p (coords p n x) ⟨c k, M[k]⟩) % p) % p = _
        rw [Nat.zero_add, fv_mod p hp, Nat.add_mod_mod, Nat.mul_comm]
        rfl
      · have : (([(⟨c k, M[k]⟩ : Term)].filter fun t => t.c != 0).filter fun t => keep t.e) = [] := by
          simp [hk2]
        rw [this, if_neg hk2]
        simp [value]
theorem degree_le {f : List Term} {d : Nat} (h : ∀ t ∈ f, total t.e ≤ d) (ht : ∃ t ∈ f, total t.e = d) : degree f = d := by
  unfold degree
  have key : ∀ (l : List Nat) (a : Nat), a ≤ d → (∀ b ∈ l, b ≤ d) → (l.foldl max a ≤ d ∧ a ≤ l.foldl max a ∧ ∀ b ∈ l, b ≤ l.foldl max a) := by
    intro l
    induction l with
    | nil =>
      intro a ha _
      exact ⟨ha, Nat.le_refl _, by simp⟩
    | cons b l ih =>
      intro a ha hl
      rw [List.foldl_cons]
      have hb := hl b (by simp)
      obtain ⟨h1, h2, h3⟩ := ih (max a b) (by omega) fun x hx => hl x (by simp [hx])
      refine ⟨h1, by omega, fun x hx => ?_⟩
      rcases List.mem_cons.mp hx with rfl | hx
      · omega
      · exact h3 x hx
  obtain ⟨h1, _, h3⟩ := key (f.map fun t => total t.e) 0 (Nat.zero_le _) fun b hb => by
    obtain ⟨t, ht, rfl⟩ := List.mem_map.mp hb
    exact h t ht
  obtain ⟨t, hm, rfl⟩ := ht
  have := h3 (total t.e) (List.mem_map.mpr ⟨t, hm, rfl⟩)
  omega
theorem mem_polyOf {M : List (List Nat)} {c : Nat → Nat} {t : Term} : t ∈ polyOf M c ↔ ∃ m < M.length, t = ⟨c m, M.getD m []⟩ ∧ c m ≠ 0 := by
  unfold polyOf
  rw [List.mem_filter, List.mem_map]
  constructor
  · rintro ⟨⟨y, hy, rfl⟩, h⟩
    have := List.mem_zipIdx hy
    refine ⟨y.2, by omega, ?_, by simpa using h⟩
    have e : M.getD y.2 [] = y.1 := by
      rw [List.getD_eq_getElem?_getD, List.getElem?_eq_getElem (by omega)]
      simp [this.2.2]
    rw [e]
  · rintro ⟨m, hm, rfl, h⟩
    refine ⟨⟨(M.getD m [], m), ?_, rfl⟩, by simpa using h⟩
    rw [List.mem_zipIdx_iff_getElem?]
    show M[m]? = some (M.getD m [])
    rw [List.getD_eq_getElem?_getD, List.getElem?_eq_getElem hm]
    rfl
theorem getD_take {M : List (List Nat)} {k m : Nat} (h : m < k) : (M.take k).getD m [] = M.getD m [] := by
  simp [List.getD, h]
theorem degree_poly {p n D : Nat} {j : Nat} {c : Nat → Nat} (hj : j < (monos p n D).length) (one : c j = 1) : degree (polyOf ((monos p n D).take (j + 1)) c) = total ((monos p n D).getD j []) := by
  refine degree_le (fun t ht => ?_) ⟨⟨c j, (monos p n D).getD j []⟩, ?_, rfl⟩
  · obtain ⟨m, hm, rfl, _⟩ := mem_polyOf.mp ht
    rw [List.length_take] at hm
    show total (((monos p n D).take (j + 1)).getD m []) ≤ _
    rw [getD_take (by omega)]
    rcases Nat.lt_or_ge m j with q | q
    · have h1 : m < (monos p n D).length := by omega
      have := List.pairwise_iff_getElem.mp (monos_sorted p n D) m j h1 hj q
      rw [List.getD_eq_getElem?_getD, List.getElem?_eq_getElem h1, List.getD_eq_getElem?_getD, List.getElem?_eq_getElem hj]
      exact before_total this
    · have : m = j := by omega
      rw [this]
      exact Nat.le_refl _
  · rw [mem_polyOf]
    refine ⟨j, by rw [List.length_take]; omega, ?_, by omega⟩
    rw [getD_take (by omega)]
/-- the highest terms' value at v -/
def hiSum (p n : Nat) (M : List (List Nat)) (c : Nat → Nat) (j v : Nat) : Nat := sumTo (fun m => if total (M.getD m []) = total (M.getD j []) then ev p n (M.getD m []) v * c m else 0) (j + 1) % p
theorem hi_eq {p n D : Nat} (hp : 0 < p) {j : Nat} {c : Nat → Nat} (hj : j < (monos p n D).length) (one : c j = 1) (v : Nat) : at1 p n (Kzt2.top (polyOf ((monos p n D).take (j + 1)) c)) v = hiSum p n (monos p n D) c j v := by
  unfold at1 Kzt2.top
  rw [degree_poly hj one]
  have := value_kept (n := n) hp (monos p n D) c (fun e => total e == total ((monos p n D).getD j [])) v (j + 1) (by omega)
  rw [this]
  unfold hiSum
  simp only [beq_iff_eq]
/-! ### told -/
theorem told_some {p n : Nat} (hp : Pr p) {s : List Nat} {j : Nat} {c : Nat → Nat} (hj : j < (monos p n (p - 1)).length) (hc : Nought p n (monos p n (p - 1)) s j c) (hmin : ∀ i < j, ∀ d, ¬ Nought p n (monos p n (p - 1)) s i d) :
    Kzt2.told1 p n s = (Kzt2.directions p n).find? fun v => hiSum p n (monos p n (p - 1)) c j v != 0 := by
  have hmem : (monos p n (p - 1)).getD j [] ∈ monos p n (p - 1) := by
    rw [List.getD_eq_getElem?_getD, List.getElem?_eq_getElem hj]
    exact List.getElem_mem hj
  have htot := (monos_mem.mp hmem).2
  have hpos := hp.pos
  unfold Kzt2.told1
  rw [least_some hp hj hc hmin]
  dsimp only
  rw [if_pos (by omega)]
  congr 1
  funext v
  rw [hi_eq hpos hj hc.one]
theorem told_none {p n : Nat} (hp : Pr p) {s : List Nat} (h : ∀ j < (monos p n (p - 1)).length, ∀ c, ¬ Nought p n (monos p n (p - 1)) s j c) : Kzt2.told1 p n s = none := by
  have hpos := hp.pos
  unfold Kzt2.told1
  cases e : least p n s with
  | none => rfl
  | some y =>
    have := least_high hp h y e
    obtain ⟨d, f⟩ := y
    dsimp only at this ⊢
    rw [if_neg (by omega)]
end KM
namespace KM
open Kzt1 (coords total lexBefore before monos)
/-! ### the terms of low degree, in their order -/
def nI (l : List Nat) : List Int := l.map fun (y : Nat) => (y : Int)
def rankI (e : List Nat) : List Int := nI (total e :: e)
theorem nI_cons (x : Nat) (l : List Nat) : nI (x :: l) = (x : Int) :: nI l := rfl
theorem lt_lex : ∀ a b : List Nat, a.length = b.length → (nI a < nI b ↔ lexBefore a b = true)
  | [], [], _ => by simp [nI, lexBefore]
  | [], _ :: _, h => by simp at h
  | _ :: _, [], h => by simp at h
  | x :: a, y :: b, h => by
    rw [nI_cons, nI_cons, List.cons_lt_cons_iff, lt_lex a b (by simpa using h)]
    show _ ↔ (decide (x < y) || (x == y && lexBefore a b)) = true
    simp only [Bool.or_eq_true, decide_eq_true_eq, Bool.and_eq_true, beq_iff_eq, Int.ofNat_lt, Int.natCast_inj]
theorem rank_lt {a b : List Nat} (h : a.length = b.length) : rankI a < rankI b ↔ before a b = true := by
  unfold rankI
  rw [nI_cons, nI_cons, List.cons_lt_cons_iff, lt_lex a b h]
  unfold before
  simp only [Bool.or_eq_true, decide_eq_true_eq, Bool.and_eq_true, beq_iff_eq, Int.ofNat_lt, Int.natCast_inj]
theorem coords_lt {p n x : Nat} (hp : 0 < p) : ∀ c ∈ coords p n x, c < p := by
  intro c hc
  unfold coords at hc
  obtain ⟨i, _, rfl⟩ := List.mem_map.mp hc
  exact Nat.mod_lt _ hp
/-- the terms ahead of the sort -/
def lowRaw (p n : Nat) : List (List Nat) := ((List.range (p ^ n)).map (coords p n)).filter fun e => decide (total e < p)
theorem lowRaw_nodup (p n : Nat) : (lowRaw p n).Nodup := by
  unfold lowRaw
  refine List.Pairwise.filter _ ?_
  rw [List.pairwise_map]
  refine List.Pairwise.imp_of_mem ?_ (List.nodup_range (n := p ^ n))
  intro a b ha hb hne e
  apply hne
  rw [← hor_coords p n a (List.mem_range.mp ha), e, hor_coords p n b (List.mem_range.mp hb)]
theorem lowRaw_mem {p n : Nat} (hp : 0 < p) {e : List Nat} : e ∈ lowRaw p n ↔ e ∈ monos p n (p - 1) := by
  unfold lowRaw
  rw [List.mem_filter, List.mem_map, monos_mem, decide_eq_true_eq]
  constructor
  · rintro ⟨⟨x, _, rfl⟩, h⟩
    exact ⟨⟨coords_length p n x, coords_lt hp⟩, by omega⟩
  · rintro ⟨⟨h1, h2⟩, h3⟩
    subst h1
    exact ⟨⟨hor p e, List.mem_range.mpr (hor_lt p e h2), coords_hor p e h2⟩, by omega⟩
theorem low_eq {p n : Nat} (hp : 0 < p) {ys : List (List Nat)} (hperm : ys.Perm (lowRaw p n)) (hs : ys.Pairwise fun a b => ¬ rankI b < rankI a) : ys = monos p n (p - 1) := by
  have hm : ∀ e, e ∈ ys ↔ e ∈ monos p n (p - 1) := fun e => by rw [hperm.mem_iff, lowRaw_mem hp]
  refine sorted_eq ?_ (monos_sorted p n (p - 1)) hm
  have nd : ys.Nodup := hperm.nodup_iff.mpr (lowRaw_nodup p n)
  unfold Sorted
  refine (List.Pairwise.and hs nd).imp_of_mem ?_
  rintro a b ha hb ⟨h1, h2⟩
  have la := (monos_mem.mp ((hm a).mp ha)).1.1
  have lb := (monos_mem.mp ((hm b).mp hb)).1.1
  have hl : b.length = a.length := by omega
  refine before_tri hl (fun e => h2 e.symm) ?_
  cases e : before b a with
  | false => rfl
  | true => exact absurd ((rank_lt hl).mpr e) h1
theorem sum_nI : ∀ e : List Nat, (nI e).sum = (total e : Int)
  | [] => rfl
  | x :: e => by
    rw [nI_cons, List.sum_cons, sum_nI e, total_cons]
    omega
theorem monos_len (p n d : Nat) : (monos p n d).length ≤ p ^ n := by
  have key : ∀ l : List (List Nat), (l.foldr Kzt1.insertE []).length = l.length := by
    intro l
    induction l with
    | nil => rfl
    | cons e l ih =>
      have ins : ∀ m : List (List Nat), (Kzt1.insertE e m).length = m.length + 1 := by
        intro m
        induction m with
        | nil => rfl
        | cons f m ihm =>
          unfold Kzt1.insertE
          split
          · rfl
          · rw [List.length_cons, ihm, List.length_cons]
      rw [List.foldr_cons, ins, ih, List.length_cons]
  have hex : ∀ n : Nat, (Kzt1.exps p n).length = p ^ n := by
    intro n
    induction n with
    | zero => rfl
    | succ n ih =>
      unfold Kzt1.exps
      rw [List.length_flatMap]
      simp only [List.length_map, ih]
      rw [List.map_const', List.sum_replicate_nat, List.length_range, Nat.pow_succ, Nat.mul_comm]
  unfold monos
  rw [key, ← hex n]
  exact List.length_filter_le _ _
end KM
set_option maxRecDepth 100000
namespace KM
/-! ### sets of points as bits -/
def bitsOf (l : List Nat) : Nat := l.foldr (fun x a => 2 ^ x + a) 0
def addK (ks : List Nat) (k : Nat) : List Nat := if ks.contains k = true then ks else ks ++ [k]
def lineBits (p n v x : Nat) : Nat := bitsOf (Kzt2.lineAt p n x v)
def linesUpto (p n v i : Nat) : List Nat := (List.range i).foldl (fun ks x => addK ks (lineBits p n v x)) []
def linesBits (p n v : Nat) : List Nat := linesUpto p n v (p ^ n)
def eachWith (sets others : List Nat) : List Nat := sets.flatMap fun b => others.map fun m => b ||| m
def setsUpto (p n i : Nat) : List Nat := (((Kzt2.directions p n).tail).take i).foldl (fun sets v => eachWith sets (linesBits p n v)) [lineBits p n ((Kzt2.directions p n).headD 0) 0]
def setsOf (p n : Nat) : List Nat := setsUpto p n (Kzt2.directions p n).tail.length
def pcF : Nat → Nat → Nat
  | 0, _ => 0
  | f + 1, b => b % 2 + pcF f (b / 2)
/-- how many bits -/
def pc (b : Nat) : Nat := pcF 25 b
def SmallOk (p n v : Nat) : Bool := (setsOf p n).all (fun b => decide (b < 2 ^ 25)) && ((setsOf p n).map pc).contains v && ((setsOf p n).map pc).all (fun c => decide (v ≤ c)) && (List.range 8).all (fun i => decide ((setsUpto p n i).length ≤ 5000)) && decide (1 ≤ (Kzt2.directions p n).length) && decide ((Kzt2.directions p n).length ≤ 8)
theorem small21 : SmallOk 2 1 2 = true := by decide +kernel
theorem small31 : SmallOk 3 1 3 = true := by decide +kernel
theorem small51 : SmallOk 5 1 5 = true := by decide +kernel
theorem small71 : SmallOk 7 1 7 = true := by decide +kernel
theorem small22 : SmallOk 2 2 3 = true := by decide +kernel
theorem small32 : SmallOk 3 2 7 = true := by decide +kernel
theorem small52 : SmallOk 5 2 17 = true := by decide +kernel
theorem small23 : SmallOk 2 3 5 = true := by decide +kernel
theorem few21 : Kzt2.fewest 2 1 = 2 := by decide +kernel
theorem few31 : Kzt2.fewest 3 1 = 3 := by decide +kernel
theorem few51 : Kzt2.fewest 5 1 = 5 := by decide +kernel
theorem few71 : Kzt2.fewest 7 1 = 7 := by decide +kernel
theorem few22 : Kzt2.fewest 2 2 = 3 := by decide +kernel
theorem few32 : Kzt2.fewest 3 2 = 7 := by decide +kernel
theorem few52 : Kzt2.fewest 5 2 = 17 := by decide +kernel
theorem few23 : Kzt2.fewest 2 3 = 5 := by decide +kernel
end KM
set_option maxRecDepth 100000
namespace KM
theorem linesUpto_succ (p n v i : Nat) : linesUpto p n v (i + 1) = addK (linesUpto p n v i) (lineBits p n v i) := by
  unfold linesUpto
  rw [List.range_succ, List.foldl_append]
  rfl
theorem addK_len (ks : List Nat) (k : Nat) : (addK ks k).length ≤ ks.length + 1 := by
  unfold addK
  split
  · omega
  · rw [List.length_append]
    exact Nat.le_refl _
theorem linesUpto_len (p n v : Nat) : ∀ i : Nat, (linesUpto p n v i).length ≤ i
  | 0 => Nat.le_refl _
  | i + 1 => by
    rw [linesUpto_succ]
    have := addK_len (linesUpto p n v i) (lineBits p n v i)
    have := linesUpto_len p n v i
    omega
theorem eachWith_snoc (xs ys : List Nat) (x : Nat) : eachWith (xs ++ [x]) ys = eachWith xs ys ++ ys.map fun m => x ||| m := by
  unfold eachWith
  rw [List.flatMap_append]
  simp
theorem eachWith_len (xs ys : List Nat) : (eachWith xs ys).length = xs.length * ys.length := by
  induction xs with
  | nil => simp [eachWith]
  | cons x xs ih =>
    unfold eachWith at ih ⊢
    rw [List.flatMap_cons, List.length_append, ih, List.length_map, List.length_cons, Nat.succ_mul]
    omega
theorem setsUpto_succ {p n i v : Nat} (h : (Kzt2.directions p n).tail[i]? = some v) : setsUpto p n (i + 1) = eachWith (setsUpto p n i) (linesBits p n v) := by
  unfold setsUpto
  rw [List.take_add_one, h, List.foldl_append]
  rfl
theorem bitsOf_sum : ∀ l : List Nat, (l.map fun x => ((2 ^ x : Nat) : Int)).sum = (bitsOf l : Int)
  | [] => rfl
  | x :: l => by
    rw [List.map_cons, List.sum_cons, bitsOf_sum l]
    show ((2 ^ x : Nat) : Int) + (bitsOf l : Int) = ((2 ^ x + bitsOf l : Nat) : Int)
    rw [Int.natCast_add]
theorem pcF_zero : ∀ k : Nat, pcF k 0 = 0
  | 0 => rfl
  | k + 1 => by
    show 0 % 2 + pcF k (0 / 2) = 0
    rw [Nat.zero_div, pcF_zero k]
theorem pcF_step {k r : Nat} (h0 : 0 < r) (h : r < 2 ^ k) : ∃ j, k = j + 1 ∧ r / 2 < 2 ^ j ∧ pcF k r = r % 2 + pcF j (r / 2) := by
  cases k with
  | zero => simp at h; omega
  | succ j =>
    refine ⟨j, rfl, ?_, rfl⟩
    rw [Nat.pow_succ] at h
    omega
structure SmallF (p n v : Nat) : Prop where
  bits : ∀ b ∈ setsOf p n, b < 2 ^ 25
  has : v ∈ (setsOf p n).map pc
  low : ∀ c ∈ (setsOf p n).map pc, v ≤ c
  sizes : ∀ i < 8, (setsUpto p n i).length ≤ 5000
  one : 1 ≤ (Kzt2.directions p n).length
  dirs : (Kzt2.directions p n).length ≤ 8
theorem smallF_of {p n v : Nat} (h : SmallOk p n v = true) : SmallF p n v := by
  unfold SmallOk at h
  simp only [Bool.and_eq_true] at h
  obtain ⟨⟨⟨⟨⟨h1, h2⟩, h3⟩, h4⟩, h5⟩, h6⟩ := h
  refine ⟨fun b hb => of_decide_eq_true (List.all_eq_true.mp h1 b hb), by simpa using h2, fun c hc => of_decide_eq_true (List.all_eq_true.mp h3 c hc), fun i hi => of_decide_eq_true (List.all_eq_true.mp h4 i (List.mem_range.mpr hi)), of_decide_eq_true h5, of_decide_eq_true h6⟩
theorem small_table {p n : Nat} (h : Kzt1.okField p n = true) (hs : ¬ ((n = 2 ∧ p = 7) ∨ (n = 3 ∧ p ≠ 2))) : Kzt2.small p n = true ∧ SmallF p n (Kzt2.fewest p n) := by
  obtain ⟨hp, h1, h3⟩ := ok_cases h
  have hn : n = 1 ∨ n = 2 ∨ n = 3 := by omega
  rcases hn with rfl | rfl | rfl
  · rcases hp with rfl | rfl | rfl | rfl
    · rw [few21]; exact ⟨rfl, smallF_of small21⟩
    · rw [few31]; exact ⟨rfl, smallF_of small31⟩
    · rw [few51]; exact ⟨rfl, smallF_of small51⟩
    · rw [few71]; exact ⟨rfl, smallF_of small71⟩
  · rcases hp with rfl | rfl | rfl | rfl
    · rw [few22]; exact ⟨rfl, smallF_of small22⟩
    · rw [few32]; exact ⟨rfl, smallF_of small32⟩
    · rw [few52]; exact ⟨rfl, smallF_of small52⟩
    · exact absurd (.inl ⟨rfl, rfl⟩) hs
  · rcases hp with rfl | rfl | rfl | rfl
    · rw [few23]; exact ⟨rfl, smallF_of small23⟩
    · exact absurd (.inr ⟨rfl, by omega⟩) hs
    · exact absurd (.inr ⟨rfl, by omega⟩) hs
    · exact absurd (.inr ⟨rfl, by omega⟩) hs
theorem small_not {p n : Nat} (hs : (n = 2 ∧ p = 7) ∨ (n = 3 ∧ p ≠ 2)) : Kzt2.small p n = false := by
  unfold Kzt2.small
  rcases hs with ⟨rfl, rfl⟩ | ⟨rfl, h⟩
  · rfl
  · simp [h]
end KM
set_option Elab.async false
set_option linter.all false
set_option maxRecDepth 100000
set_option maxHeartbeats 2000000
namespace KM
open PySem PySem.Spec PyProof.Rows L2

/-! ### lists of ints as keys -/
abbrev encR (ns : List Int) : PyData := .list (ns.map .int)
theorem reads_ints {h : Heap} : ∀ {ns : List Int} {us : List Value}, Vals (ns.map V.int) us → ReadsAll h us (ns.map .int) []
  | [], _, r => by
    cases r
    exact .nil
  | n :: ns, _, r => by
    cases r with
    | cons r1 r2 =>
      obtain ⟨t, rfl⟩ := r1
      exact .cons (as := []) (bs := []) (.int n t) (reads_ints r2)
theorem reads_plain {h : Heap} {a : Addr} {its : List Value} {ns : List Int} (p : PlainL h a its.toArray) (r : Vals (ns.map V.int) its) : Reads h (.ref a) (encR ns) [a] := by
  obtain ⟨o, n, e, c, _, d⟩ := p
  exact .list e c d (by simpa using reads_ints r)
theorem reads_lst {P : Program} {w : World} {H : Hp} {h : Heap} {a : Addr} {ns : List Int} (o : ObjOk P w H h a (.lst (ns.map V.int))) : Reads h (.ref a) (encR ns) [a] := by
  obtain ⟨_, its, n, r, e⟩ := o
  exact reads_plain ⟨_, n, e, rfl, rfl, rfl⟩ r
theorem encR_alike (a b : List Int) : PySem.W.alike (encR a) (encR b) = true := by
  unfold PySem.W.alike
  exact PySem.W.alike_ints a b
theorem encR_depth (a : List Int) : (encR a).depth ≤ 1 := by
  unfold PyData.depth
  rw [PySem.W.depth_ints]
  exact Nat.le_refl _
theorem each_vals : ∀ {out : List Value} {bs : List V}, PySem.W.EachIs (fun v x => RelV x v) out bs → Vals bs out
  | _, _, .nil => .nil
  | _, _, .cons h t => .cons h (each_vals t)
theorem vals_each : ∀ {bs : List V} {out : List Value}, Vals bs out → PySem.W.EachIs (fun v x => RelV x v) out bs
  | _, _, .nil => .nil
  | _, _, .cons h t => .cons h (vals_each t)

/-! ### xs < ys, lists of ints -/
def rLtL (K : PySem.W.Frag) : R2 := fun x y H Q => ∃ (a b : Addr) (ns ms : List Int), x = .ref a ∧ y = .ref b ∧ SqL K H a (ns.map V.int) ∧ SqL K H b (ms.map V.int) ∧ Q (.bl (decide (ns < ms))) H
theorem op_ltL {X : Cx} (hu : X.A.units + 64 < cLine) : OpR X (compareOp .Lt) (rLtL X.K) := by
  intro pins s σ H x y v u Q I rx ry h
  obtain ⟨a, b, ns, ms, rfl, rfl, ha, hb, q⟩ := h
  cases rx
  cases ry
  obtain ⟨i1, r1, p1, _⟩ := I.list ha
  obtain ⟨i2, r2, p2, _⟩ := I.list hb
  have hd := encR_depth ns
  have R := PySem.W.rcLt_alike (encR ns) (encR ms) X.A s _ _ _ _ (reads_plain p1 r1) (reads_plain p2 r2) (encR_alike ns ms) (fun z => nomatch z) (by omega)
  have e : PySem.W.dataLt (encR ns) (encR ms) = decide (ns < ms) := by
    rw [PySem.W.dataLt_list]
    exact PySem.W.dataLt_ints ns ms
  rw [e] at R
  exact R X.prog X.w X.xe (EP X pins σ Q) ⟨.bl _, H, I, rfl, q⟩
end KM
namespace KM
open PySem PySem.Spec PyProof.Rows L2
def topS (i : Nat) : Stmt := PySem.Challenge.pw_everywaydesk_s07_fewest.main.body.getD i (.Pass ⟨0, 0, 0, 0⟩)
abbrev sTop : Stmt := topS 5
abbrev sSpace : Stmt := topS 6
abbrev sCount : Stmt := topS 7
abbrev sPoint : Stmt := topS 8
abbrev sNums : Stmt := topS 9
abbrev sUp : Stmt := topS 10
abbrev sDir : Stmt := topS 11
abbrev sAll : Stmt := topS 12
abbrev sPol : Stmt := topS 13
abbrev sSets : Stmt := topS 14
abbrev sEach : Stmt := topS 15
abbrev sLines : Stmt := topS 16
abbrev sBits : Stmt := topS 17
abbrev sPc : Stmt := topS 18
end KM
namespace KM
open PySem PySem.Spec PyProof.Rows L2
abbrev iv (k : Nat) : V := .int (k : Int)
def ivs (l : List Nat) : List V := l.map iv
theorem ivs_length (l : List Nat) : (ivs l).length = l.length := List.length_map ..
theorem ivs_append (a b : List Nat) : ivs (a ++ b) = ivs a ++ ivs b := List.map_append ..
theorem ivs_get {l : List Nat} {i : Nat} {c : Nat} (h : l[i]? = some c) : (ivs l)[i]? = some (iv c) := by
  unfold ivs
  rw [List.getElem?_map, h]
  rfl
theorem ivs_at {l : List Nat} {i : Nat} {x : V} (h : (ivs l)[i]? = some x) : ∃ c, l[i]? = some c ∧ x = iv c := by
  unfold ivs at h
  rw [List.getElem?_map] at h
  cases e : l[i]? with
  | none =>
    rw [e] at h
    cases h
  | some c =>
    rw [e] at h
    exact ⟨c, rfl, (Option.some.inj h).symm⟩
theorem same_upd {H : Hp} {p : Addr} {o : HO} (h : H p = none) : Same H (upd H p o) := fun b x e => by
  rw [upd_ne (ne_of_none e h)]
  exact e
theorem same_new {H H' : Hp} {p : Addr} {o : HO} (s : Same H H') (h : H p = none) : Same H (upd H' p o) := fun b x e => by
  rw [upd_ne (ne_of_none e h)]
  exact s _ _ e
theorem ne_free {H : Hp} {a b : Addr} {o : HO} (h : H a = some o) (n : H b = none) : b ≠ a := fun e => by
  rw [e, h] at n
  cases n
theorem decide_iv (a b : Nat) : decide (iv a = iv b) = decide (a = b) := by
  by_cases h : a = b
  · subst h; simp
  · have : iv a ≠ iv b := fun e => h (by have := V.int.inj e; omega)
    simp [h, this]
theorem sz {n : Nat} (h : n ≤ 1000) : n < sizeLine := small1000 h

structure Txt (K : PySem.W.Frag) (mg : Str → Option Value) (aP : Addr) (tM tW tN : Nat) : Prop where
  gP : mg "PRIMES" = some (.ref aP)
  hP : ∀ H : Hp, SqT K H aP (ivs [2, 3, 5, 7])
  gM : mg "MOST_NUMBERS" = some (.int 3 tM)
  gW : mg "WRONG_FORM" = some (.int (-22) tW)
  range : mg "range" = none

/-! ### the promises -/
def spSpace : Sp := fun vs H Q _ => ∃ p n : Nat, vs = [iv p, iv n] ∧ Q (.bl (Kzt1.okField p n)) H
def spCount : Sp := fun vs H Q _ => ∃ p n : Nat, vs = [iv p, iv n] ∧ p ≤ 7 ∧ n ≤ 3 ∧ Q (iv (p ^ n)) H
def spPoint : Sp := fun vs H Q _ => ∃ p n x : Nat, vs = [iv p, iv n, iv x] ∧ p ≤ 7 ∧ n ≤ 3 ∧ Q (.bl (decide (x < p ^ n))) H
def spNums : Sp := fun vs H Q _ => ∃ p n x : Nat, vs = [iv p, iv n, iv x] ∧ 0 < p ∧ p ≤ 7 ∧ n ≤ 3 ∧ ∀ (H' : Hp) (a : Addr), Same H H' → H a = none → H' a = some (.lst (ivs (Kzt1.coords p n x))) → Q (.ref a) H'
def spDir : Sp := fun vs H Q _ => ∃ p n v : Nat, vs = [iv p, iv n, iv v] ∧ 0 < p ∧ p ≤ 7 ∧ n ≤ 3 ∧ ∀ H' : Hp, Same H H' → Q (.bl (isDir p n v)) H'

end KM
namespace KM
open PySem PySem.Spec PyProof.Rows L2
section
variable {P : Program} {w : World} {K : PySem.W.Frag} {mg : Str → Option Value} {base : Heap} {aP : Addr} {tM tW tN : Nat}
theorem scSpace : FnScope ["p", "n"] ["p", "n"] (defScope sSpace) := ⟨rfl, rfl, rfl, by decide +kernel, rfl, by decide +kernel, by decide +kernel⟩
theorem in_primes (p : Nat) : inV (iv p) (ivs [2, 3, 5, 7]) = (p == 2 || p == 3 || p == 5 || p == 7) := by
  have e : ∀ q : Nat, eqV (iv q) (iv p) = (p == q) := fun q => by
    show ((q : Int) == (p : Int)) = (p == q)
    rw [Bool.eq_iff_iff]
    simp only [beq_iff_eq]
    omega
  show (eqV (iv 2) (iv p) || (eqV (iv 3) (iv p) || (eqV (iv 5) (iv p) || (eqV (iv 7) (iv p) || false)))) = _
  rw [e, e, e, e, Bool.or_false, Bool.or_assoc, Bool.or_assoc]
theorem ok_space {f : Addr} {fd : FuncData} {k : Nat} (F : Fun K "is_space" "is_space" sSpace f fd) (T : Txt K mg aP tM tW tN) : FnOk P w K mg base CX0 (k + 1) f fd ["p", "n"] spSpace := by
  refine F.ok scSpace (fun vs H Q E h => ?_) (fun cdv A outer s H vs Q E hr h => ?_)
  · obtain ⟨p, n, rfl, _⟩ := h
    rfl
  · obtain ⟨p, n, rfl, q⟩ := h
    refine ⟨_, pss_one (ps_ret (pe_and (pe_cmpR op_in_seq (pv 0) (pe_glob (v := .ref aP) (by rfl) T.gP rfl) (by rfl)) (pe_one (pe_chain op_le op_le pe_int (pv 1) (pe_glob (v := .int 3) (by rfl) T.gM ⟨_, rfl⟩))))), ?_⟩
    refine ⟨iv p, rfl, aP, ivs [2, 3, 5, 7], rfl, .inr (T.hP H), rfl, rfl, _, rfl, ?_⟩
    show if inV (iv p) (ivs [2, 3, 5, 7]) = true then _ else _
    rw [in_primes]
    refine ite2 (fun e => ?_) (fun e => ?_)
    · refine ⟨iv n, rfl, 1, n, rfl, rfl, _, rfl, ite2 (fun e1 => ?_) (fun e1 => ?_)⟩
      · refine ⟨n, 3, rfl, rfl, ?_⟩
        have e2 : Kzt1.okField p n = decide ((n : Int) ≤ 3) := by
          have h1 : 1 ≤ n := by have := of_decide_eq_true e1; omega
          unfold Kzt1.okField
          rw [e, decide_eq_true h1, Bool.true_and, Bool.true_and]
          exact decide_eq_decide.mpr (by omega)
        show Q (.bl (decide ((n : Int) ≤ 3))) H
        rw [← e2]
        exact q
      · have h1 : ¬ 1 ≤ n := fun z => e1 (decide_eq_true (by omega))
        have e2 : Kzt1.okField p n = false := by
          unfold Kzt1.okField
          rw [decide_eq_false h1, Bool.and_false, Bool.false_and]
        show Q (.bl false) H
        rw [← e2]
        exact q
    · have e2 : Kzt1.okField p n = false := by
        unfold Kzt1.okField
        rw [Bool.eq_false_iff.mpr e, Bool.false_and, Bool.false_and]
      show Q (.bl false) H
      rw [← e2]
      exact q
end
end KM
namespace KM
open PySem PySem.Spec PyProof.Rows L2
section
variable {P : Program} {w : World} {K : PySem.W.Frag} {mg : Str → Option Value} {base : Heap} {aP : Addr} {tM tW tN : Nat}
theorem scCount : FnScope ["p", "n", "count", "place"] ["p", "n"] (defScope sCount) := ⟨rfl, rfl, rfl, by decide +kernel, rfl, by decide +kernel, by decide +kernel⟩
theorem ok_count {f : Addr} {fd : FuncData} {k : Nat} (F : Fun K "count_points" "count_points" sCount f fd) (T : Txt K mg aP tM tW tN) : FnOk P w K mg base CX0 (k + 1) f fd ["p", "n"] spCount := by
  refine F.ok scCount (fun vs H Q E h => ?_) (fun cdv A outer s H vs Q E hr h => ?_)
  · obtain ⟨p, n, rfl, _⟩ := h
    rfl
  · obtain ⟨p, n, rfl, hp, hn, q⟩ := h
    refine ⟨_, pss_cons (ps_set (i := 2) scCount.nd rfl (.inl rfl) pe_int)
      (pss_cons (ps_for PassesOwn.never rfl (pi_range1 (by rfl) T.range (pa_cons (pv 1) pa_nil)) (pg_name (i := 3) scCount.nd rfl (.inl rfl))
        (pss_one (ps_set (i := 2) scCount.nd rfl (.inl rfl) (pe_op op_mul (pv 2) (pv 0)))))
      (pss_one (ps_ret (pv 2)))), ?_⟩
    refine ⟨iv n, rfl, (n : Int), rfl, by omega, by omega, for_range (n := (n : Int).toNat) (fun i σ H' => ∃ y, σ = [some (iv p), some (iv n), some (iv (p ^ i)), y] ∧ H' = H) ⟨none, rfl, rfl⟩ ?_ ?_⟩
    · rintro i σ H' hi ⟨y, rfl, rfl⟩
      refine ⟨iv (p ^ i), rfl, iv p, rfl, _, _, rfl, rfl, .inr ⟨by omega, by omega⟩, some (.int (0 + (i : Int))), ?_, rfl⟩
      show [some (iv p), some (iv n), some (V.int ((p ^ i : Nat) * (p : Int))), _] = _
      rw [show ((p ^ i : Nat) * (p : Int)) = ((p ^ (i + 1) : Nat) : Int) by rw [Nat.pow_succ, Int.natCast_mul]]
    · rintro σ H' ⟨y, rfl, rfl⟩
      rw [Int.toNat_natCast]
      exact ⟨_, rfl, q⟩
end
end KM
namespace KM
open PySem PySem.Spec PyProof.Rows L2
section
variable {P : Program} {w : World} {K : PySem.W.Frag} {mg : Str → Option Value} {base : Heap} {aP : Addr} {tM tW tN : Nat}
theorem scPoint : FnScope ["p", "n", "x"] ["p", "n", "x"] (defScope sPoint) := ⟨rfl, rfl, rfl, by decide +kernel, rfl, by decide +kernel, by decide +kernel⟩
theorem ok_point {f fC : Addr} {fd fdC : FuncData} {k : Nat} (F : Fun K "is_point" "is_point" sPoint f fd) (FC : Fun K "count_points" "count_points" sCount fC fdC) (bC : Binds K fdC ["p", "n"] []) (gC : mg "count_points" = some (.ref fC)) (T : Txt K mg aP tM tW tN) :
    FnOk P w K mg base CX0 (k + 2) f fd ["p", "n", "x"] spPoint := by
  have GC : FnOk P w K mg base CX0 (k + 1) fC fdC ["p", "n"] spCount := ok_count FC T
  refine F.ok scPoint (fun vs H Q E h => ?_) (fun cdv A outer s H vs Q E hr h => ?_)
  · obtain ⟨p, n, x, rfl, _⟩ := h
    rfl
  · obtain ⟨p, n, x, rfl, hp, hn, q⟩ := h
    refine ⟨_, pss_one (ps_ret (pe_chain op_le op_lt pe_int (pv 2) (pe_call GC hr (by rfl) gC FC.kp bC .nil pass0 (pa_cons (pv 0) (pa_cons (pv 1) pa_nil))))), ?_⟩
    refine ⟨iv x, rfl, 0, x, rfl, rfl, _, rfl, ite2 (fun e1 => ?_) (fun e1 => ?_)⟩
    · refine ⟨iv p, rfl, iv n, rfl, p, n, rfl, hp, hn, x, (p ^ n : Nat), rfl, rfl, ?_⟩
      show Q (.bl (decide ((x : Int) < ((p ^ n : Nat) : Int)))) H
      rw [show decide ((x : Int) < ((p ^ n : Nat) : Int)) = decide (x < p ^ n) from decide_eq_decide.mpr (by omega)]
      exact q
    · exact absurd (decide_eq_true (by omega)) e1
end
end KM
namespace KM
open PySem PySem.Spec PyProof.Rows L2
section
variable {P : Program} {w : World} {K : PySem.W.Frag} {mg : Str → Option Value} {base : Heap} {aP : Addr} {tM tW tN : Nat}
theorem scNums : FnScope ["p", "n", "point", "numbers", "rest", "place"] ["p", "n", "point"] (defScope sNums) := ⟨rfl, rfl, rfl, by decide +kernel, rfl, by decide +kernel, by decide +kernel⟩
theorem ok_nums {f : Addr} {fd : FuncData} {k : Nat} (F : Fun K "numbers_of_point" "numbers_of_point" sNums f fd) (T : Txt K mg aP tM tW tN) : FnOk P w K mg base CX0 (k + 1) f fd ["p", "n", "point"] spNums := by
  refine F.ok scNums (fun vs H Q E h => ?_) (fun cdv A outer s H vs Q E hr h => ?_)
  · obtain ⟨p, n, x, rfl, _⟩ := h
    rfl
  · obtain ⟨p, n, x, rfl, h0, hp, hn, q⟩ := h
    refine ⟨_, pss_cons (ps_set (i := 3) scNums.nd rfl (.inl rfl) (pe_lst pa_nil))
      (pss_cons (ps_set (i := 4) scNums.nd rfl (.inl rfl) (pv 2))
      (pss_cons (ps_for PassesOwn.never rfl (pi_range1 (by rfl) T.range (pa_cons (pv 1) pa_nil)) (pg_name (i := 5) scNums.nd rfl (.inl rfl))
        (pss_cons (ps_expr (pe_bm PySem.F.plainAttrs_list PySem.F.slot_list_append PySem.F.type_list_append mt_append (pv 3) (pa_cons (pe_op op_mod (pv 4) (pv 0)) pa_nil)))
        (pss_one (ps_set (i := 4) scNums.nd rfl (.inl rfl) (pe_op op_fdiv (pv 4) (pv 0))))))
      (pss_one (ps_ret (pv 3))))), ?_⟩
    refine ⟨Nat.zero_le _, fun l nl => ?_⟩
    refine ⟨iv x, rfl, iv n, rfl, (n : Int), rfl, by omega, by omega, for_range (n := (n : Int).toNat) (fun i σ H' => ∃ y, σ = [some (iv p), some (iv n), some (iv x), some (.ref l), some (iv (x / p ^ i)), y] ∧ Same H H' ∧ H' l = some (.lst (ivs (Kzt1.coords p i x))))
      ⟨none, ?_, same_upd nl, upd_same⟩ ?_ ?_⟩
    · rw [Nat.pow_zero, Nat.div_one]
      rfl
    · rintro i σ H' hi ⟨y, rfl, sm, hl⟩
      refine ⟨.ref l, rfl, .inl ⟨rfl, _, SqL.of hl⟩, iv (x / p ^ i), rfl, iv p, rfl, _, _, rfl, rfl, by omega, l, _, _, rfl, rfl, hl, ?_, ?_⟩
      · rw [ivs_length, coords_length]
        exact sz (by omega)
      · refine ⟨iv (x / p ^ i), rfl, iv p, rfl, _, _, rfl, rfl, ⟨by omega, by omega⟩, some (.int (0 + (i : Int))), ?_, same_new sm nl, ?_⟩
        · show [some (iv p), some (iv n), some (iv x), some (.ref l), some (V.int (((x / p ^ i : Nat) : Int) / (p : Int))), _] = _
          rw [show ((x / p ^ i : Nat) : Int) / (p : Int) = ((x / p ^ (i + 1) : Nat) : Int) by rw [Nat.pow_succ, ← Nat.div_div_eq_div_mul]; exact (Int.natCast_ediv _ _).symm]
        · rw [upd_same, coords_succ, ivs_append]
          rfl
    · rintro σ H' ⟨y, rfl, sm, hl⟩
      rw [Int.toNat_natCast] at hl
      exact ⟨_, rfl, q H' l sm nl hl⟩
end
end KM
namespace KM
open PySem PySem.Spec PyProof.Rows L2
section
variable {P : Program} {w : World} {K : PySem.W.Frag} {mg : Str → Option Value} {base : Heap} {aP : Addr} {tM tW tN : Nat}
theorem scDir : FnScope ["p", "n", "v", "number"] ["p", "n", "v"] (defScope sDir) := ⟨rfl, rfl, rfl, by decide +kernel, rfl, by decide +kernel, by decide +kernel⟩
theorem ok_dir {f fC fP fN : Addr} {fd fdC fdP fdN : FuncData} {k : Nat} (F : Fun K "is_direction" "is_direction" sDir f fd)
    (FC : Fun K "count_points" "count_points" sCount fC fdC) (bC : Binds K fdC ["p", "n"] []) (gC : mg "count_points" = some (.ref fC))
    (FP : Fun K "is_point" "is_point" sPoint fP fdP) (bP : Binds K fdP ["p", "n", "x"] []) (gP : mg "is_point" = some (.ref fP))
    (FN : Fun K "numbers_of_point" "numbers_of_point" sNums fN fdN) (bN : Binds K fdN ["p", "n", "point"] []) (gN : mg "numbers_of_point" = some (.ref fN))
    (T : Txt K mg aP tM tW tN) : FnOk P w K mg base CX0 (k + 3) f fd ["p", "n", "v"] spDir := by
  have GP : FnOk P w K mg base CX0 (k + 2) fP fdP ["p", "n", "x"] spPoint := ok_point FP FC bC gC T
  have GN : FnOk P w K mg base CX0 (k + 2) fN fdN ["p", "n", "point"] spNums := ok_nums FN T
  refine F.ok scDir (fun vs H Q E h => ?_) (fun cdv A outer s H vs Q E hr h => ?_)
  · obtain ⟨p, n, v, rfl, _⟩ := h
    rfl
  · obtain ⟨p, n, v, rfl, h0, hp, hn, q⟩ := h
    refine ⟨_, pss_cons (ps_if (pt_not (pt_val (pe_call GP hr (by rfl) gP FP.kp bP .nil pass0 (pa_cons (pv 0) (pa_cons (pv 1) (pa_cons (pv 2) pa_nil)))))) (pss_one (ps_ret pe_bl)) pss_nil)
      (pss_cons (ps_for PassesOwn.never rfl (pi_list (pe_call GN hr (by rfl) gN FN.kp bN .nil pass0 (pa_cons (pv 0) (pa_cons (pv 1) (pa_cons (pv 2) pa_nil))))) (pg_name (i := 3) scDir.nd rfl (.inl rfl))
        (pss_one (ps_if (pt_cmpR op_ne (pv 3) pe_int (nomark _)) (pss_one (ps_ret (pe_cmpR op_eq (pv 3) pe_int (nomark _)))) pss_nil)))
      (pss_one (ps_ret pe_bl))), ?_⟩
    refine ⟨iv p, rfl, iv n, rfl, iv v, rfl, p, n, v, rfl, hp, hn, _, rfl, ?_⟩
    by_cases hv : v < p ^ n
    · rw [decide_eq_true hv]
      refine iteF ?_
      refine ⟨iv p, rfl, iv n, rfl, iv v, rfl, p, n, v, rfl, h0, hp, hn, fun H1 a sm na ha => ?_⟩
      have hd : isDir p n v = ((Kzt1.coords p n v).find? (fun x => x != 0) == some 1) := by
        unfold isDir
        rw [decide_eq_true hv, Bool.true_and]
      refine ⟨a, rfl, ⟨_, SqL.of ha⟩, for_list (K := K) (a := a) (xs := ivs (Kzt1.coords p n v)) (fun i σ H' => ∃ y, σ = [some (iv p), some (iv n), some (iv v), y] ∧ H' = H1 ∧ ((Kzt1.coords p n v).take i).find? (fun x => x != 0) = none)
        ⟨none, rfl, rfl, rfl⟩ ?_ ?_ ?_⟩
      · rintro i σ H' _ ⟨_, _, rfl, _⟩
        exact SqL.of ha
      · rintro i x σ H' hi ⟨y, rfl, rfl, hf⟩
        obtain ⟨c, hc, rfl⟩ := ivs_at hi
        refine ⟨iv c, rfl, rfl, _, rfl, ?_⟩
        by_cases c0 : c = 0
        · subst c0
          refine iteF ?_
          exact ⟨some (iv 0), rfl, rfl, find_none_take hf hc rfl⟩
        · have hne : decide (iv c = iv 0) = false := by
            rw [decide_iv]
            exact decide_eq_false c0
          show if (!decide (iv c = iv 0)) = true then _ else _
          rw [hne]
          refine iteT ?_
          refine ⟨iv c, rfl, rfl, ?_⟩
          have e := find_some_take hf hc c0
          have e2 : isDir p n v = decide (iv c = iv 1) := by
            rw [hd, e, decide_iv]
            rw [Bool.eq_iff_iff]
            simp
          show Q (.bl (decide (iv c = iv 1))) _
          rw [← e2]
          exact q _ sm
      · rintro σ H' ⟨y, rfl, rfl, hf⟩
        rw [ivs_length, List.take_length] at hf
        have e2 : isDir p n v = false := by
          rw [hd, hf]
          rfl
        show Q (.bl false) _
        rw [← e2]
        exact q _ sm
    · rw [decide_eq_false hv]
      refine iteT ?_
      have e2 : isDir p n v = false := by
        unfold isDir
        rw [decide_eq_false hv, Bool.false_and]
      show Q (.bl false) _
      rw [← e2]
      exact q _ (Same.refl _)
end
end KM
namespace KM
open PySem PySem.Spec PyProof.Rows L2
def spUp : Sp := fun vs H Q _ => ∃ (p : Nat) (a : Addr) (l : List Nat), vs = [iv p, .ref a] ∧ H a = some (.lst (ivs l)) ∧ p ≤ 7 ∧ Q (iv (hor p l)) H
def spPol : Sp := fun vs H Q _ => ∃ p n x v : Nat, vs = [iv p, iv n, iv x, iv v] ∧ 0 < p ∧ p ≤ 7 ∧ n ≤ 3 ∧ ∀ (H' : Hp) (a : Addr), Same H H' → H a = none → H' a = some (.lst (ivs (Kzt2.lineAt p n x v))) → Q (.ref a) H'
section
variable {P : Program} {w : World} {K : PySem.W.Frag} {mg : Str → Option Value} {base : Heap} {aP : Addr} {tM tW tN : Nat}
theorem scUp : FnScope ["p", "numbers", "point", "number"] ["p", "numbers"] (defScope sUp) := ⟨rfl, rfl, rfl, by decide +kernel, rfl, by decide +kernel, by decide +kernel⟩
theorem ok_up {f : Addr} {fd : FuncData} {k : Nat} (F : Fun K "point_of_numbers" "point_of_numbers" sUp f fd) (mr : mg "reversed" = none) : FnOk P w K mg base CX0 (k + 1) f fd ["p", "numbers"] spUp := by
  refine F.ok scUp (fun vs H Q E h => ?_) (fun cdv A outer s H vs Q E hr h => ?_)
  · obtain ⟨p, a, l, rfl, _⟩ := h
    rfl
  · obtain ⟨p, a, l, rfl, ha, hp, q⟩ := h
    refine ⟨_, pss_cons (ps_set (i := 2) scUp.nd rfl (.inl rfl) pe_int)
      (pss_cons (ps_for PassesOwn.never rfl (pi_reversed (by rfl) mr (pa_cons (pv 1) pa_nil)) (pg_name (i := 3) scUp.nd rfl (.inl rfl))
        (pss_one (ps_set (i := 2) scUp.nd rfl (.inl rfl) (pe_op op_add (pe_op op_mul (pv 2) (pv 0)) (pv 3)))))
      (pss_one (ps_ret (pv 2)))), ?_⟩
    refine ⟨.ref a, rfl, a, ivs l, rfl, SqL.of ha, for_it (walk_rev (K := K) (a := a) (xs := ivs l)) (fun i σ H' => ∃ y, σ = [some (iv p), some (.ref a), some (iv (hor p (l.drop (l.length - i)))), y] ∧ H' = H) ⟨none, ?_, rfl⟩ ?_ ?_ ?_⟩
    · rw [Nat.sub_zero, List.drop_length]
      rfl
    · rintro i σ H' _ ⟨_, _, rfl⟩
      exact SqL.of ha
    · rintro i x σ H' H2 hi ⟨y, rfl, rfl⟩ ⟨rfl, hx⟩
      rw [ivs_length] at hi hx
      obtain ⟨c, hc, rfl⟩ := ivs_at hx
      refine ⟨iv _, rfl, iv p, rfl, _, _, rfl, rfl, .inr ⟨by omega, by omega⟩, iv c, rfl, _, _, rfl, rfl, some (iv c), ?_, rfl⟩
      show [some (iv p), some (.ref a), some (V.int (((hor p (l.drop (l.length - i)) : Nat) : Int) * (p : Int) + (c : Int))), _] = _
      rw [hor_drop p l i c hc hi]
      rw [show (((hor p (l.drop (l.length - i)) : Nat) : Int) * (p : Int) + (c : Int)) = ((hor p (l.drop (l.length - i)) * p + c : Nat) : Int) by rw [Int.natCast_add, Int.natCast_mul]]
    · rintro σ H' ⟨y, rfl, rfl⟩
      rw [ivs_length, Nat.sub_self]
      exact ⟨_, rfl, q⟩

theorem scPol : FnScope ["p", "n", "x", "v", "start", "way", "points", "times", "numbers", "place"] ["p", "n", "x", "v"] (defScope sPol) := ⟨rfl, rfl, rfl, by decide +kernel, rfl, by decide +kernel, by decide +kernel⟩
theorem ok_pol {f fN fU : Addr} {fd fdN fdU : FuncData} {k : Nat} (F : Fun K "points_of_line" "points_of_line" sPol f fd)
    (FN : Fun K "numbers_of_point" "numbers_of_point" sNums fN fdN) (bN : Binds K fdN ["p", "n", "point"] []) (gN : mg "numbers_of_point" = some (.ref fN))
    (FU : Fun K "point_of_numbers" "point_of_numbers" sUp fU fdU) (bU : Binds K fdU ["p", "numbers"] []) (gU : mg "point_of_numbers" = some (.ref fU))
    (mr : mg "reversed" = none) (T : Txt K mg aP tM tW tN) : FnOk P w K mg base CX0 (k + 2) f fd ["p", "n", "x", "v"] spPol := by
  have GN : FnOk P w K mg base CX0 (k + 1) fN fdN ["p", "n", "point"] spNums := ok_nums FN T
  have GU : FnOk P w K mg base CX0 (k + 1) fU fdU ["p", "numbers"] spUp := ok_up FU mr
  refine F.ok scPol (fun vs H Q E h => ?_) (fun cdv A outer s H vs Q E hr h => ?_)
  · obtain ⟨p, n, x, v, rfl, _⟩ := h
    rfl
  · obtain ⟨p, n, x, v, rfl, h0, hp, hn, q⟩ := h
    refine ⟨_, pss_cons (ps_set (i := 4) scPol.nd rfl (.inr rfl) (pe_call GN hr (by rfl) gN FN.kp bN .nil pass0 (pa_cons (pv 0) (pa_cons (pv 1) (pa_cons (pv 2) pa_nil)))))
      (pss_cons (ps_set (i := 5) scPol.nd rfl (.inr rfl) (pe_call GN hr (by rfl) gN FN.kp bN .nil pass0 (pa_cons (pv 0) (pa_cons (pv 1) (pa_cons (pv 3) pa_nil)))))
      (pss_cons (ps_set (i := 6) scPol.nd rfl (.inl rfl) (pe_lst pa_nil))
      (pss_cons (ps_for PassesOwn.never rfl (pi_range1 (by rfl) T.range (pa_cons (pv 0) pa_nil)) (pg_name (i := 7) scPol.nd rfl (.inr rfl))
        (pss_cons (ps_setLc (i := 8) (own := [("place", 9)]) (g := gName 9) (tt := tYes) (by rfl) scPol.nd rfl rfl (sw_true rfl rfl rfl (by decide +kernel)) (pi_range1 (by rfl) T.range (pa_cons (pv 1) pa_nil))
            (blkOk_by (own := [("place", 9)]) (N := ["p", "n", "x", "v", "start", "way", "points", "times", "numbers", "place"]) (sc := defScope sPol) (by decide +kernel))
            (fun _ _ _ _ _ => pg_name (i := 9) scPol.nd rfl (.inl rfl)) (fun _ _ _ _ _ => pts_nil)
            (fun _ _ _ _ _ => pe_op op_mod (pe_op op_add (pe_ix (r := rIxL K) ix_list (pv 4) (pv 9) (fun _ _ => rfl)) (pe_op op_mul (pv 7) (pe_ix (r := rIxL K) ix_list (pv 5) (pv 9) (fun _ _ => rfl)))) (pv 0)))
        (pss_one (ps_expr (pe_bm PySem.F.plainAttrs_list PySem.F.slot_list_append PySem.F.type_list_append mt_append (pv 6) (pa_cons (pe_call GU hr (by rfl) gU FU.kp bU .nil pass0 (pa_cons (pv 0) (pa_cons (pv 8) pa_nil))) pa_nil))))))
      (pss_one (ps_ret (pv 6)))))), ?_⟩
    refine ⟨iv p, rfl, iv n, rfl, iv x, rfl, p, n, x, rfl, h0, hp, hn, fun H1 a1 sm1 na1 ha1 => ?_⟩
    refine ⟨iv p, rfl, iv n, rfl, iv v, rfl, p, n, v, rfl, h0, hp, hn, fun H2 a2 sm2 na2 ha2 => ?_⟩
    refine ⟨Nat.zero_le _, fun l nl => ?_⟩
    have sm12 : Same H H2 := sm1.trans sm2
    have nl0 : H l = none := sm12.free nl
    refine ⟨iv p, rfl, (p : Int), rfl, by omega, by omega, for_range (n := (p : Int).toNat) (fun i σ H' => ∃ y7 y8 y9, σ = [some (iv p), some (iv n), some (iv x), some (iv v), some (.ref a1), some (.ref a2), some (.ref l), y7, y8, y9] ∧ Same H2 H' ∧ H' l = some (.lst (ivs ((List.range i).map fun t => hor p (lineNums p n x v t)))))
      ⟨none, none, none, rfl, same_upd nl, upd_same⟩ ?_ ?_⟩
    · rintro i σ H' hi ⟨y7, y8, y9, rfl, sm, hl⟩
      refine ⟨iv n, rfl, (n : Int), rfl, by omega, by omega, fun D nD => lc_range (lo := 0) (n := (n : Int).toNat) (fun j H3 => Same H' H3 ∧ H3 D = some (.lst (ivs (lineNums p j x v i)))) ⟨same_upd nD, upd_same⟩ ?_ ?_⟩
      · rintro j H3 hj ⟨sm3, hD⟩
        rw [Int.toNat_natCast] at hj
        have s23 : Same H2 H3 := sm.trans sm3
        have e1 : atI (ivs (Kzt1.coords p n x)) (0 + (j : Int)) = some (iv (x / p ^ j % p)) := at_of (j := j) (by omega) (ivs_get (coords_get p n x j hj))
        have e2 : atI (ivs (Kzt1.coords p n v)) (0 + (j : Int)) = some (iv (v / p ^ j % p)) := at_of (j := j) (by omega) (ivs_get (coords_get p n v j hj))
        refine ⟨rfl, ?_⟩
        unfold tYes
        refine iteT ?_
        refine ⟨.ref a1, rfl, .int (0 + (j : Int)), rfl, a1, _, _, _, rfl, rfl, SqL.of (s23 _ _ (sm2 _ _ ha1)), e1, .int (0 + (i : Int)), rfl, .ref a2, rfl, .int (0 + (j : Int)), rfl, a2, _, _, _, rfl, rfl, SqL.of (s23 _ _ ha2), e2, _, _, rfl, rfl, ?_, _, _, rfl, rfl, iv p, rfl, _, _, rfl, rfl, by omega, _, hD, ?_, ?_, ?_⟩
        · exact .inl ⟨by omega, by omega⟩
        · rw [ivs_length]
          simp only [lineNums, List.length_map, List.length_range]
          exact sz (by omega)
        · exact same_new sm3 nD
        · rw [upd_same]
          unfold lineNums
          rw [List.range_succ, List.map_append, ivs_append]
          have e : (((x / p ^ j % p : Nat) : Int) + (0 + (i : Int)) * ((v / p ^ j % p : Nat) : Int)) % (p : Int) = (((x / p ^ j % p + i * (v / p ^ j % p)) % p : Nat) : Int) := by
            rw [Int.zero_add, Int.natCast_emod (x / p ^ j % p + i * (v / p ^ j % p)) p, Int.natCast_add, Int.natCast_mul]
          show some (HO.lst (_ ++ [V.int ((((x / p ^ j % p : Nat) : Int) + (0 + (i : Int)) * ((v / p ^ j % p : Nat) : Int)) % (p : Int))])) = _
          rw [e]
          rfl
      · rintro H3 ⟨sm3, hD⟩
        rw [Int.toNat_natCast] at hD
        have hl3 := sm3 _ _ hl
        refine ⟨.ref l, rfl, .inl ⟨rfl, _, SqL.of hl3⟩, iv p, rfl, .ref D, rfl, p, D, _, rfl, hD, hp, l, _, _, rfl, rfl, hl3, ?_, ?_⟩
        · rw [ivs_length, List.length_map, List.length_range]
          exact sz (by omega)
        · refine ⟨_, _, _, rfl, same_new (sm.trans sm3) nl, ?_⟩
          rw [upd_same, List.range_succ, List.map_append, ivs_append]
          rfl
    · rintro σ H' ⟨y7, y8, y9, rfl, sm, hl⟩
      rw [Int.toNat_natCast, ← lineAt_eq p n x v h0] at hl
      exact ⟨_, rfl, q H' l (sm12.trans sm) nl0 hl⟩
end
end KM
namespace KM
open PySem PySem.Spec PyProof.Rows L2
def spAll : Sp := fun vs H Q _ => ∃ p n : Nat, vs = [iv p, iv n] ∧ 0 < p ∧ p ≤ 7 ∧ n ≤ 3 ∧ p ^ n ≤ 343 ∧ ∀ (H' : Hp) (a : Addr), Same H H' → H a = none → H' a = some (.lst (ivs (Kzt2.directions p n))) → Q (.ref a) H'
section
variable {P : Program} {w : World} {K : PySem.W.Frag} {mg : Str → Option Value} {base : Heap} {aP : Addr} {tM tW tN : Nat}
theorem scAll : FnScope ["p", "n", "point"] ["p", "n"] (defScope sAll) := ⟨rfl, rfl, rfl, by decide +kernel, rfl, by decide +kernel, by decide +kernel⟩
theorem filter_succ (f : Nat → Bool) (i : Nat) : (List.range (i + 1)).filter f = (List.range i).filter f ++ (if f i then [i] else []) := by
  rw [List.range_succ, List.filter_append]
  cases h : f i <;> simp [h]
theorem ok_all {f fC fP fN fD : Addr} {fd fdC fdP fdN fdD : FuncData} {k : Nat} (F : Fun K "all_directions" "all_directions" sAll f fd)
    (FC : Fun K "count_points" "count_points" sCount fC fdC) (bC : Binds K fdC ["p", "n"] []) (gC : mg "count_points" = some (.ref fC))
    (FP : Fun K "is_point" "is_point" sPoint fP fdP) (bP : Binds K fdP ["p", "n", "x"] []) (gP : mg "is_point" = some (.ref fP))
    (FN : Fun K "numbers_of_point" "numbers_of_point" sNums fN fdN) (bN : Binds K fdN ["p", "n", "point"] []) (gN : mg "numbers_of_point" = some (.ref fN))
    (FD : Fun K "is_direction" "is_direction" sDir fD fdD) (bD : Binds K fdD ["p", "n", "v"] []) (gD : mg "is_direction" = some (.ref fD))
    (T : Txt K mg aP tM tW tN) : FnOk P w K mg base CX0 (k + 4) f fd ["p", "n"] spAll := by
  have GC : FnOk P w K mg base CX0 (k + 3) fC fdC ["p", "n"] spCount := ok_count FC T
  have GD : FnOk P w K mg base CX0 (k + 3) fD fdD ["p", "n", "v"] spDir := ok_dir FD FC bC gC FP bP gP FN bN gN T
  refine F.ok scAll (fun vs H Q E h => ?_) (fun cdv A outer s H vs Q E hr h => ?_)
  · obtain ⟨p, n, rfl, _⟩ := h
    rfl
  · obtain ⟨p, n, rfl, h0, hp, hn, hpow, q⟩ := h
    refine ⟨_, pss_one (ps_ret (pe_lc (own := [("point", 2)]) (g := gName 2) (tt := tTest (tCall spDir [] E0 (tCons (tVar 0) (tCons (tVar 1) (tCons (tVar 2) tNil))))) (te := tVar 2) (by rfl) scAll.nd
        (pi_range1 (by rfl) T.range (pa_cons (pe_call GC hr (by rfl) gC FC.kp bC .nil pass0 (pa_cons (pv 0) (pa_cons (pv 1) pa_nil))) pa_nil))
        (blkOk_by (own := [("point", 2)]) (N := ["p", "n", "point"]) (sc := defScope sAll) (by decide +kernel))
        (fun _ _ _ _ _ => pg_name (i := 2) scAll.nd rfl (.inl rfl))
        (fun _ _ _ _ _ => pts_one (pt_val (pe_call GD hr (by rfl) gD FD.kp bD .nil pass0 (pa_cons (pv 0) (pa_cons (pv 1) (pa_cons (pv 2) pa_nil))))))
        (fun _ _ _ _ _ => pv 2))), ?_⟩
    refine ⟨iv p, rfl, iv n, rfl, p, n, rfl, hp, hn, ((p ^ n : Nat) : Int), rfl, by omega, by omega, fun D nD => lc_range (lo := 0) (n := (((p ^ n : Nat) : Int)).toNat) (fun j H3 => Same H H3 ∧ H3 D = some (.lst (ivs ((List.range j).filter (isDir p n))))) ⟨same_upd nD, upd_same⟩ ?_ ?_⟩
    · rintro j H3 hj ⟨sm3, hD⟩
      rw [Int.toNat_natCast] at hj
      have ej : V.int (0 + (j : Int)) = iv j := congrArg V.int (Int.zero_add _)
      rw [ej]
      refine ⟨rfl, ?_⟩
      refine ⟨iv p, rfl, iv n, rfl, iv j, rfl, p, n, j, rfl, h0, hp, hn, fun H4 sm4 => ⟨_, rfl, ?_⟩⟩
      have hD4 := sm4 _ _ hD
      cases hd : isDir p n j with
      | true =>
        refine iteT ?_
        refine ⟨iv j, rfl, _, hD4, ?_, same_new (sm3.trans sm4) nD, ?_⟩
        · rw [ivs_length]
          refine sz (Nat.le_trans (List.length_filter_le _ _) ?_)
          rw [List.length_range]
          omega
        · rw [upd_same, filter_succ, hd, ivs_append]
          rfl
      | false =>
        refine iteF ?_
        refine ⟨sm3.trans sm4, ?_⟩
        rw [filter_succ, hd]
        show _ = some (HO.lst (ivs (_ ++ [])))
        rw [List.append_nil]
        exact hD4
    · rintro H3 ⟨sm3, hD⟩
      rw [Int.toNat_natCast, ← directions_eq] at hD
      exact q H3 D sm3 nD hD
end
end KM
namespace KM
open PySem PySem.Spec PyProof.Rows L2
/-- what members_of_set makes -/
def mems (s : List Nat) : List (Key × V) := s.map fun (y : Nat) => ((Sum.inl (y : Int) : Key), V.bl true)
theorem mems_length (s : List Nat) : (mems s).length = s.length := List.length_map ..
theorem mems_get {s : List Nat} {i : Nat} {k : Key} {v : V} (h : (mems s)[i]? = some (k, v)) : ∃ c, s[i]? = some c ∧ k = Sum.inl (c : Int) := by
  unfold mems at h
  rw [List.getElem?_map] at h
  cases e : s[i]? with
  | none =>
    rw [e] at h
    cases h
  | some c =>
    rw [e] at h
    have := Option.some.inj h
    exact ⟨c, rfl, (congrArg Prod.fst this).symm⟩
theorem mems_val (y : Nat) : ∀ s : List Nat, valV (mems s) (Sum.inl (y : Int)) = if s.contains y = true then some (V.bl true) else none
  | [] => rfl
  | c :: s => by
    have ih := mems_val y s
    by_cases h : c = y
    · subst h
      rw [if_pos (by simp)]
      exact valV_pos (p := ((Sum.inl (c : Int) : Key), V.bl true)) rfl
    · have h1 : ¬ ((Sum.inl (c : Int) : Key)) = Sum.inl (y : Int) := fun e => h (by have := Sum.inl.inj e; omega)
      have e := valV_neg (p := ((Sum.inl (c : Int) : Key), V.bl true)) (r := mems s) h1
      show valV (((Sum.inl (c : Int) : Key), V.bl true) :: mems s) _ = _
      rw [e, ih]
      have hyc : ¬ y = c := fun e => h e.symm
      simp [hyc]
end KM
namespace KM
theorem take_get {α : Type} {l : List α} {i : Nat} {x : α} (h : l[i]? = some x) : l.take (i + 1) = l.take i ++ [x] := by
  rw [List.take_add_one, h]
  rfl

end KM
namespace KM
open PySem PySem.Spec PyProof.Rows L2
theorem mems_put (ks : List Nat) (c : Nat) : putK (mems ks) (Sum.inl (c : Int)) (V.bl true) = mems (addK ks c) := by
  unfold addK
  by_cases h : ks.contains c = true
  · rw [if_pos h]
    have e : ((mems ks).any fun kv => decide (kv.1 = (Sum.inl (c : Int) : Key))) = true := by
      rw [List.any_eq_true]
      refine ⟨((Sum.inl (c : Int) : Key), V.bl true), ?_, decide_eq_true rfl⟩
      unfold mems
      exact List.mem_map.mpr ⟨c, by simpa using h, rfl⟩
    unfold putK
    rw [if_pos e]
    conv => rhs; rw [← List.map_id (mems ks)]
    apply List.map_congr_left
    intro kv hkv
    unfold mems at hkv
    obtain ⟨y, _, rfl⟩ := List.mem_map.mp hkv
    dsimp only
    split
    · rfl
    · rfl
  · rw [if_neg h, putK_new _ (by rw [mems_val, if_neg h])]
    unfold mems
    rw [List.map_append]
    rfl
theorem mems_keys (ks : List Nat) : (mems ks).map (fun kv => kV kv.1) = ivs ks := by
  unfold mems ivs
  rw [List.map_map]
  rfl
def spBits : Sp := fun vs H Q _ => ∃ (a : Addr) (l : List Nat), vs = [.ref a] ∧ H a = some (.lst (ivs l)) ∧ l.length ≤ 1000 ∧ (∀ x ∈ l, x ≤ 1000000) ∧ ∀ H' : Hp, Same H H' → Q (iv (bitsOf l)) H'
def spPc : Sp := fun vs H Q _ => ∃ b : Nat, vs = [iv b] ∧ b < 2 ^ 25 ∧ Q (iv (pc b)) H
def spEach : Sp := fun vs H Q _ => ∃ (a b : Addr) (xs ys : List Nat), vs = [.ref a, .ref b] ∧ H a = some (.lst (ivs xs)) ∧ H b = some (.lst (ivs ys)) ∧ ys.length ≤ 400 ∧ xs.length ≤ 5000 ∧ ∀ (H' : Hp) (c : Addr), Same H H' → H c = none → H' c = some (.lst (ivs (eachWith xs ys))) → Q (.ref c) H'
def spLines : Sp := fun vs H Q _ => ∃ p n v : Nat, vs = [iv p, iv n, iv v] ∧ 0 < p ∧ p ≤ 7 ∧ n ≤ 3 ∧ p ^ n ≤ 343 ∧ ∀ (H' : Hp) (a : Addr), Same H H' → H a = none → H' a = some (.lst (ivs (linesBits p n v))) → Q (.ref a) H'
theorem lineAt_bounds {p n x v : Nat} (h0 : 0 < p) (hp : p ≤ 7) (hw : p ^ n ≤ 343) : (Kzt2.lineAt p n x v).length ≤ 1000 ∧ ∀ y ∈ Kzt2.lineAt p n x v, y ≤ 1000000 := by
  refine ⟨?_, fun y hy => ?_⟩
  · unfold Kzt2.lineAt
    rw [List.length_map, List.length_range]
    omega
  · obtain ⟨t, _, rfl⟩ := mem_lineAt.mp hy
    have := shifted_lt (p := p) (n := n) (x := x) (v := v) (t := t) h0
    omega
section
variable {P : Program} {w : World} {K : PySem.W.Frag} {mg : Str → Option Value} {base : Heap} {aP : Addr} {tM tW tN : Nat}
theorem scBits : FnScope ["points", "point"] ["points"] (defScope sBits) := ⟨rfl, rfl, rfl, by decide +kernel, rfl, by decide +kernel, by decide +kernel⟩
theorem ok_bits {f : Addr} {fd : FuncData} {k : Nat} (F : Fun K "bits_of_points" "bits_of_points" sBits f fd) (ms : mg "sum" = none) : FnOk P w K mg base CX0 (k + 1) f fd ["points"] spBits := by
  refine F.ok scBits (fun vs H Q E h => ?_) (fun cdv A outer s H vs Q E hr h => ?_)
  · obtain ⟨a, l, rfl, _⟩ := h
    rfl
  · obtain ⟨a, l, rfl, ha, hlen, hb, q⟩ := h
    refine ⟨_, pss_one (ps_ret (pe_callB (cr_sum rfl) (by rfl) ms (by decide +kernel) (pa_cons (pe_lc (own := [("point", 1)]) (g := gName 1) (tt := tYes) (te := tOp (rI CPow fun i j => .int (i * 2 ^ j.toNat)) (tC (.int 1)) (tVar 1)) (by rfl) scBits.nd (pi_list (pv 0))
        (blkOk_by (own := [("point", 1)]) (N := ["points", "point"]) (sc := defScope sBits) (by decide +kernel))
        (fun _ _ _ _ _ => pg_name (i := 1) scBits.nd rfl (.inl rfl)) (fun _ _ _ _ _ => pts_nil)
        (fun _ _ _ _ _ => pe_op op_shl pe_int (pv 1))) pa_nil))), ?_⟩
    refine ⟨.ref a, rfl, a, rfl, ⟨_, SqL.of ha⟩, fun D nD => ?_⟩
    refine lc_list (K := K) (a := a) (xs := ivs l) (fun j H3 => Same H H3 ∧ H3 D = some (.lst (((l.take j).map fun x => ((2 ^ x : Nat) : Int)).map V.int))) ⟨same_upd nD, upd_same⟩ ?_ ?_ ?_
    · rintro j H3 _ ⟨sm3, _⟩
      exact sm3.seq (SqL.of ha)
    · rintro j x H3 hj ⟨sm3, hD⟩
      obtain ⟨y, hy, rfl⟩ := ivs_at hj
      have hy2 := hb y (List.mem_of_getElem? hy)
      refine ⟨rfl, ?_⟩
      unfold tYes
      refine iteT ?_
      refine ⟨iv y, rfl, _, _, rfl, rfl, ⟨by omega, by omega, by decide⟩, _, hD, ?_, same_new sm3 nD, ?_⟩
      · rw [List.length_map, List.length_map, List.length_take]
        exact sz (by omega)
      · rw [upd_same, take_get hy, List.map_append, List.map_append]
        show some (HO.lst (_ ++ [V.int (1 * 2 ^ ((y : Int)).toNat)])) = some (HO.lst (_ ++ [V.int ((2 ^ y : Nat) : Int)]))
        rw [Int.one_mul, Int.toNat_natCast, Int.natCast_pow]
        rfl
    · rintro H3 ⟨sm3, hD⟩
      rw [ivs_length, List.take_length] at hD
      refine ⟨D, _, rfl, SqL.of hD, ?_⟩
      rw [bitsOf_sum]
      exact q H3 sm3
theorem scPc : FnScope ["bits", "count", "rest"] ["bits"] (defScope sPc) := ⟨rfl, rfl, rfl, by decide +kernel, rfl, by decide +kernel, by decide +kernel⟩
def restOf (σ : List (Option V)) : Nat := match σ[2]? with
  | some (some (V.int r)) => r.toNat
  | _ => 0
theorem ok_pc {f : Addr} {fd : FuncData} {k : Nat} (F : Fun K "count_of_bits" "count_of_bits" sPc f fd) : FnOk P w K mg base CX0 (k + 1) f fd ["bits"] spPc := by
  refine F.ok scPc (fun vs H Q E h => ?_) (fun cdv A outer s H vs Q E hr h => ?_)
  · obtain ⟨b, rfl, _⟩ := h
    rfl
  · obtain ⟨b, rfl, hb, q⟩ := h
    refine ⟨_, pss_cons (ps_set (i := 1) scPc.nd rfl (.inl rfl) pe_int)
      (pss_cons (ps_set (i := 2) scPc.nd rfl (.inl rfl) (pv 0))
      (pss_cons (ps_while PassesOwn.never (pt_cmpR op_gt (pv 2) pe_int (nomark _))
        (pss_cons (ps_set (i := 1) scPc.nd rfl (.inl rfl) (pe_op op_add (pv 1) (pe_op op_mod (pv 2) pe_int)))
        (pss_one (ps_set (i := 2) scPc.nd rfl (.inl rfl) (pe_op op_fdiv (pv 2) pe_int)))))
      (pss_one (ps_ret (pv 1))))), ?_⟩
    refine ⟨iv b, rfl, while_by (fun σ H' => ∃ c r j : Nat, σ = [some (iv b), some (iv c), some (iv r)] ∧ H' = H ∧ r < 2 ^ j ∧ c + pcF j r = pc b) (fun σ _ => restOf σ) ⟨0, b, 25, rfl, rfl, hb, Nat.zero_add _⟩ ?_ ?_⟩
    · rintro σ H' ⟨c, r, j, rfl, rfl, hr2, hc⟩
      refine ⟨iv r, rfl, _, _, rfl, rfl, _, rfl, ?_⟩
      show if decide ((0 : Int) < (r : Int)) = true then _ else _
      by_cases h0 : 0 < r
      · rw [decide_eq_true (show (0 : Int) < (r : Int) by omega)]
        refine iteT ?_
        obtain ⟨j', rfl, h1, h2⟩ := pcF_step h0 hr2
        refine ⟨iv c, rfl, iv r, rfl, _, _, rfl, rfl, (by show (0 : Int) < 2; decide), _, _, rfl, rfl, ?_⟩
        refine ⟨iv r, rfl, _, _, rfl, rfl, ⟨by decide, by decide⟩, ⟨c + r % 2, r / 2, j', ?_, rfl, h1, by omega⟩, ?_⟩
        · show [some (iv b), some (V.int ((c : Int) + (r : Int) % 2)), some (V.int ((r : Int) / 2))] = _
          rw [show (c : Int) + (r : Int) % 2 = ((c + r % 2 : Nat) : Int) by omega, show (r : Int) / 2 = ((r / 2 : Nat) : Int) by omega]
        · show ((r : Int) / 2).toNat < ((r : Int)).toNat
          omega
      · rw [decide_eq_false (show ¬ (0 : Int) < (r : Int) by omega)]
        refine iteF ?_
        have hr0 : r = 0 := by omega
        subst hr0
        rw [pcF_zero, Nat.add_zero] at hc
        refine ⟨iv c, rfl, ?_⟩
        rw [hc]
        exact q
    · rintro σ H' Q1 Q2 hQ ⟨v, hv, i, j, e1, e2, k, hk, h⟩
      exact ⟨v, hv, i, j, e1, e2, k, hk, hQ _ _ h⟩
theorem scEach : FnScope ["sets", "others", "both", "bits", "more"] ["sets", "others"] (defScope sEach) := ⟨rfl, rfl, rfl, by decide +kernel, rfl, by decide +kernel, by decide +kernel⟩
theorem or_iv (x y : Nat) : V.int (Builtin.bitOr (x : Int) (y : Int)) = iv (x ||| y) := by
  rw [Bits.bitOr_pp (by omega) (by omega), Int.toNat_natCast, Int.toNat_natCast]
theorem ok_each {f : Addr} {fd : FuncData} {k : Nat} (F : Fun K "each_with_each" "each_with_each" sEach f fd) : FnOk P w K mg base CX0 (k + 1) f fd ["sets", "others"] spEach := by
  refine F.ok scEach (fun vs H Q E h => ?_) (fun cdv A outer s H vs Q E hr h => ?_)
  · obtain ⟨a, b, xs, ys, rfl, _⟩ := h
    rfl
  · obtain ⟨a, b, xs, ys, rfl, ha, hb, hy, hx, q⟩ := h
    refine ⟨_, pss_cons (ps_set (i := 2) scEach.nd rfl (.inl rfl) (pe_lst pa_nil))
      (pss_cons (ps_for PassesOwn.never rfl (pi_list (pv 0)) (pg_name (i := 3) scEach.nd rfl (.inr rfl))
        (pss_one (ps_expr (pe_bm PySem.F.plainAttrs_list PySem.F.slot_list_extend PySem.F.type_list_extend mt_extend (pv 2) (pa_cons
          (pe_lc (own := [("more", 4)]) (g := gName 4) (tt := tYes) (te := tOp (rI0 fun i j => .int (Builtin.bitOr i j)) (tVar 3) (tVar 4)) (by rfl) scEach.nd (pi_list (pv 1))
            (blkOk_by (own := [("more", 4)]) (N := ["sets", "others", "both", "bits", "more"]) (sc := defScope sEach) (by decide +kernel))
            (fun _ _ _ _ _ => pg_name (i := 4) scEach.nd rfl (.inl rfl)) (fun _ _ _ _ _ => pts_nil)
            (fun _ _ _ _ _ => pe_op op_or (pv 3) (pv 4))) pa_nil)))))
      (pss_one (ps_ret (pv 2)))), ?_⟩
    refine ⟨Nat.zero_le _, fun l nl => ?_⟩
    refine ⟨.ref a, rfl, a, rfl, ⟨_, SqL.of ((same_upd nl) _ _ ha)⟩, for_list (K := K) (a := a) (xs := ivs xs) (fun i σ H' => ∃ y3, σ = [some (.ref a), some (.ref b), some (.ref l), y3, none] ∧ Same H H' ∧ H' l = some (.lst (ivs (eachWith (xs.take i) ys))))
      ⟨none, rfl, same_upd nl, upd_same⟩ ?_ ?_ ?_⟩
    · rintro i σ H' _ ⟨_, _, sm, _⟩
      exact sm.seq (SqL.of ha)
    · rintro i x σ H' hi ⟨y3, rfl, sm, hl⟩
      obtain ⟨c, hc, rfl⟩ := ivs_at hi
      refine ⟨.ref l, rfl, .inl ⟨rfl, _, SqL.of hl⟩, .ref b, rfl, b, rfl, ⟨_, SqL.of (sm _ _ hb)⟩, fun D nD => ?_⟩
      refine lc_list (K := K) (a := b) (xs := ivs ys) (fun j H3 => Same H' H3 ∧ H3 D = some (.lst (ivs ((ys.take j).map fun m => c ||| m)))) ⟨same_upd nD, upd_same⟩ ?_ ?_ ?_
      · rintro j H3 _ ⟨sm3, _⟩
        exact sm3.seq (SqL.of (sm _ _ hb))
      · rintro j x H3 hj ⟨sm3, hD⟩
        obtain ⟨y, hy2, rfl⟩ := ivs_at hj
        refine ⟨rfl, ?_⟩
        unfold tYes
        refine iteT ?_
        refine ⟨iv c, rfl, iv y, rfl, _, _, rfl, rfl, _, hD, ?_, same_new sm3 nD, ?_⟩
        · rw [ivs_length, List.length_map, List.length_take]
          exact sz (by omega)
        · rw [upd_same, take_get hy2, List.map_append, ivs_append]
          show some (HO.lst (_ ++ [V.int (Builtin.bitOr (c : Int) (y : Int))])) = _
          rw [or_iv]
          rfl
      · rintro H3 ⟨sm3, hD⟩
        rw [ivs_length, List.take_length] at hD
        have hl3 := sm3 _ _ hl
        refine ⟨l, D, _, _, rfl, rfl, hl3, hD, ?_, _, rfl, same_new (sm.trans sm3) nl, ?_⟩
        · rw [ivs_length, ivs_length, eachWith_len, List.length_map, List.length_take, sizeLine_eq]
          have : min i xs.length * ys.length ≤ 5000 * 400 := Nat.mul_le_mul (by omega) hy
          omega
        · rw [upd_same, take_get hc, eachWith_snoc, ivs_append]
    · rintro σ H' ⟨y3, rfl, sm, hl⟩
      rw [ivs_length, List.take_length] at hl
      exact ⟨_, rfl, q H' l sm nl hl⟩
theorem scLines : FnScope ["p", "n", "v", "found", "x"] ["p", "n", "v"] (defScope sLines) := ⟨rfl, rfl, rfl, by decide +kernel, rfl, by decide +kernel, by decide +kernel⟩
theorem ok_lines {f fC fN fU fL fB : Addr} {fd fdC fdN fdU fdL fdB : FuncData} {k : Nat} (F : Fun K "lines_as_bits" "lines_as_bits" sLines f fd)
    (FC : Fun K "count_points" "count_points" sCount fC fdC) (bC : Binds K fdC ["p", "n"] []) (gC : mg "count_points" = some (.ref fC))
    (FN : Fun K "numbers_of_point" "numbers_of_point" sNums fN fdN) (bN : Binds K fdN ["p", "n", "point"] []) (gN : mg "numbers_of_point" = some (.ref fN))
    (FU : Fun K "point_of_numbers" "point_of_numbers" sUp fU fdU) (bU : Binds K fdU ["p", "numbers"] []) (gU : mg "point_of_numbers" = some (.ref fU))
    (FL : Fun K "points_of_line" "points_of_line" sPol fL fdL) (bL : Binds K fdL ["p", "n", "x", "v"] []) (gL : mg "points_of_line" = some (.ref fL))
    (FB : Fun K "bits_of_points" "bits_of_points" sBits fB fdB) (bB : Binds K fdB ["points"] []) (gB : mg "bits_of_points" = some (.ref fB))
    (mr : mg "reversed" = none) (ms : mg "sum" = none) (mli : mg "list" = none) (T : Txt K mg aP tM tW tN) : FnOk P w K mg base CX0 (k + 3) f fd ["p", "n", "v"] spLines := by
  have GC : FnOk P w K mg base CX0 (k + 2) fC fdC ["p", "n"] spCount := ok_count FC T
  have GL : FnOk P w K mg base CX0 (k + 2) fL fdL ["p", "n", "x", "v"] spPol := ok_pol FL FN bN gN FU bU gU mr T
  have GB : FnOk P w K mg base CX0 (k + 2) fB fdB ["points"] spBits := ok_bits FB ms
  refine F.ok scLines (fun vs H Q E h => ?_) (fun cdv A outer s H vs Q E hr h => ?_)
  · obtain ⟨p, n, v, rfl, _⟩ := h
    rfl
  · obtain ⟨p, n, v, rfl, h0, hp, hn, hw, q⟩ := h
    refine ⟨_, pss_cons (ps_set (i := 3) scLines.nd rfl (.inl rfl) pe_dnewK)
      (pss_cons (ps_for PassesOwn.never rfl (pi_range1 (by rfl) T.range (pa_cons (pe_call GC hr (by rfl) gC FC.kp bC .nil pass0 (pa_cons (pv 0) (pa_cons (pv 1) pa_nil))) pa_nil)) (pg_name (i := 4) scLines.nd rfl (.inl rfl))
        (pss_one (ps_dput (hu_of hr) (pv 3) (pe_call GB hr (by rfl) gB FB.kp bB .nil pass0 (pa_cons (pe_call GL hr (by rfl) gL FL.kp bL .nil pass0 (pa_cons (pv 0) (pa_cons (pv 1) (pa_cons (pv 4) (pa_cons (pv 2) pa_nil))))) pa_nil)) pe_bl rfl)))
      (pss_one (ps_ret (pe_callTy (call_list_dK rfl) (by rfl) mli (by decide +kernel) (pa_cons (pv 3) pa_nil))))), ?_⟩
    refine fun d nd => ?_
    refine ⟨iv p, rfl, iv n, rfl, p, n, rfl, hp, hn, ((p ^ n : Nat) : Int), rfl, by omega, by omega, for_range (n := ((p ^ n : Nat) : Int).toNat) (fun i σ H' => ∃ y4, σ = [some (iv p), some (iv n), some (iv v), some (.ref d), y4] ∧ Same H H' ∧ H' d = some (.dK (mems (linesUpto p n v i))))
      ⟨none, rfl, same_upd nd, upd_same⟩ ?_ ?_⟩
    · rintro i σ H' hi ⟨y4, rfl, sm, hd⟩
      rw [Int.toNat_natCast] at hi
      have ej : V.int (0 + (i : Int)) = iv i := congrArg V.int (Int.zero_add _)
      rw [ej]
      have hlen := linesUpto_len p n v i
      refine ⟨.ref d, rfl, iv p, rfl, iv n, rfl, iv i, rfl, iv v, rfl, p, n, i, v, rfl, h0, hp, hn, fun H1 a1 sm1 na1 ha1 => ?_⟩
      obtain ⟨hb1, hb2⟩ := lineAt_bounds (p := p) (n := n) (x := i) (v := v) h0 hp hw
      refine ⟨a1, _, rfl, ha1, hb1, hb2, fun H2 sm2 => ?_⟩
      have hd2 := sm2 _ _ (sm1 _ _ hd)
      refine ⟨d, _, rfl, DPut.k (k := Sum.inl ((bitsOf (Kzt2.lineAt p n i v) : Nat) : Int)) hd2 ?_, some (iv i), rfl, same_new (sm.trans (sm1.trans sm2)) nd, ?_⟩
      · rw [mems_length]
        exact sz (by omega)
      · rw [upd_same, mems_put, linesUpto_succ]
        rfl
    · rintro σ H' ⟨y4, rfl, sm, hd⟩
      rw [Int.toNat_natCast] at hd
      refine ⟨.ref d, rfl, d, _, rfl, hd, fun r nr => ?_⟩
      rw [mems_keys]
      exact q _ r (sm.trans (same_upd nr)) (sm.free nr) upd_same
end
end KM
namespace KM
open PySem PySem.Spec PyProof.Rows L2
def spSets : Sp := fun vs H Q _ => ∃ p n v0 : Nat, vs = [iv p, iv n] ∧ 0 < p ∧ p ≤ 7 ∧ n ≤ 3 ∧ p ^ n ≤ 343 ∧ SmallF p n v0 ∧ ∀ (H' : Hp) (a : Addr), Same H H' → H a = none → H' a = some (.lst (ivs (setsOf p n))) → Q (.ref a) H'
def spTop : Sp := fun vs H Q _ => ∃ p n : Int, vs = [.int p, .int n] ∧ 0 ≤ p ∧ 0 ≤ n ∧ ∀ (H' : Hp) (a : Addr), H' a = some (.lst ((PyKzt2.fewest p n).map V.int)) → Q (.ref a) H'
theorem few_no (p n : Nat) (h : Kzt1.okField p n = false) : PyKzt2.fewest p n = [-22] := by
  show ((Kzt2.answer (.fewest p n)).value :: (Kzt2.answer (.fewest p n)).nums) = _
  unfold Kzt2.answer
  dsimp only
  rw [if_pos h]
  rfl
theorem few_far (p n : Nat) (h : Kzt1.okField p n = true) (hs : Kzt2.small p n = false) : PyKzt2.fewest p n = [-28] := by
  show ((Kzt2.answer (.fewest p n)).value :: (Kzt2.answer (.fewest p n)).nums) = _
  unfold Kzt2.answer
  dsimp only
  rw [if_neg (by rw [h]; exact Bool.noConfusion), if_pos hs]
  rfl
theorem few_in (p n : Nat) (h : Kzt1.okField p n = true) (hs : Kzt2.small p n = true) : PyKzt2.fewest p n = [(Kzt2.fewest p n : Int)] := by
  show ((Kzt2.answer (.fewest p n)).value :: (Kzt2.answer (.fewest p n)).nums) = _
  unfold Kzt2.answer
  dsimp only
  rw [if_neg (by rw [h]; exact Bool.noConfusion), if_neg (by rw [hs]; exact Bool.noConfusion)]
  rfl
theorem ivs_nI (l : List Nat) : (nI l).map V.int = ivs l := by
  unfold nI ivs
  rw [List.map_map]
  rfl
theorem cut_tail (t : List Nat) : cutV (ivs t) (some 1) none = ivs t.tail := by
  unfold cutV
  rw [show (some (1 : Int)) = some ((1 : Nat) : Int) from rfl, HT.sIx_nat, HT.sIx_none, ivs_length]
  cases t with
  | nil => rfl
  | cons x t =>
    rw [List.length_cons, Nat.min_eq_left (by omega), show ivs (x :: t) = iv x :: ivs t from rfl, List.drop_succ_cons, List.drop_zero, List.tail_cons]
    apply List.take_of_length_le
    rw [ivs_length]
    omega
section
variable {P : Program} {w : World} {K : PySem.W.Frag} {mg : Str → Option Value} {base : Heap} {aP : Addr} {tM tW tN tR : Nat}
theorem scSets : FnScope ["p", "n", "ways", "sets", "v"] ["p", "n"] (defScope sSets) := ⟨rfl, rfl, rfl, by decide +kernel, rfl, by decide +kernel, by decide +kernel⟩
theorem ok_sets {f fC fP fN fU fD fA fL fE fI fB : Addr} {fd fdC fdP fdN fdU fdD fdA fdL fdE fdI fdB : FuncData} {k : Nat} (F : Fun K "sets_of_lines" "sets_of_lines" sSets f fd)
    (FC : Fun K "count_points" "count_points" sCount fC fdC) (bC : Binds K fdC ["p", "n"] []) (gC : mg "count_points" = some (.ref fC))
    (FP : Fun K "is_point" "is_point" sPoint fP fdP) (bP : Binds K fdP ["p", "n", "x"] []) (gP : mg "is_point" = some (.ref fP))
    (FN : Fun K "numbers_of_point" "numbers_of_point" sNums fN fdN) (bN : Binds K fdN ["p", "n", "point"] []) (gN : mg "numbers_of_point" = some (.ref fN))
    (FU : Fun K "point_of_numbers" "point_of_numbers" sUp fU fdU) (bU : Binds K fdU ["p", "numbers"] []) (gU : mg "point_of_numbers" = some (.ref fU))
    (FD : Fun K "is_direction" "is_direction" sDir fD fdD) (bD : Binds K fdD ["p", "n", "v"] []) (gD : mg "is_direction" = some (.ref fD))
    (FA : Fun K "all_directions" "all_directions" sAll fA fdA) (bA : Binds K fdA ["p", "n"] []) (gA : mg "all_directions" = some (.ref fA))
    (FL : Fun K "points_of_line" "points_of_line" sPol fL fdL) (bL : Binds K fdL ["p", "n", "x", "v"] []) (gL : mg "points_of_line" = some (.ref fL))
    (FE : Fun K "each_with_each" "each_with_each" sEach fE fdE) (bE : Binds K fdE ["sets", "others"] []) (gE : mg "each_with_each" = some (.ref fE))
    (FI : Fun K "lines_as_bits" "lines_as_bits" sLines fI fdI) (bI : Binds K fdI ["p", "n", "v"] []) (gI : mg "lines_as_bits" = some (.ref fI))
    (FB : Fun K "bits_of_points" "bits_of_points" sBits fB fdB) (bB : Binds K fdB ["points"] []) (gB : mg "bits_of_points" = some (.ref fB))
    (mr : mg "reversed" = none) (ms : mg "sum" = none) (mli : mg "list" = none) (T : Txt K mg aP tM tW tN) : FnOk P w K mg base CX0 (k + 5) f fd ["p", "n"] spSets := by
  have GA : FnOk P w K mg base CX0 (k + 4) fA fdA ["p", "n"] spAll := ok_all FA FC bC gC FP bP gP FN bN gN FD bD gD T
  have GL : FnOk P w K mg base CX0 (k + 4) fL fdL ["p", "n", "x", "v"] spPol := ok_pol FL FN bN gN FU bU gU mr T
  have GB : FnOk P w K mg base CX0 (k + 4) fB fdB ["points"] spBits := ok_bits FB ms
  have GE : FnOk P w K mg base CX0 (k + 4) fE fdE ["sets", "others"] spEach := ok_each FE
  have GI : FnOk P w K mg base CX0 (k + 4) fI fdI ["p", "n", "v"] spLines := ok_lines FI FC bC gC FN bN gN FU bU gU FL bL gL FB bB gB mr ms mli T
  refine F.ok scSets (fun vs H Q E h => ?_) (fun cdv A outer s H vs Q E hr h => ?_)
  · obtain ⟨p, n, v0, rfl, _⟩ := h
    rfl
  · obtain ⟨p, n, v0, rfl, h0, hp, hn, hw, S, q⟩ := h
    refine ⟨_, pss_cons (ps_set (i := 2) scSets.nd rfl (.inl rfl) (pe_call GA hr (by rfl) gA FA.kp bA .nil pass0 (pa_cons (pv 0) (pa_cons (pv 1) pa_nil))))
      (pss_cons (ps_set (i := 3) scSets.nd rfl (.inl rfl) (pe_lst (pa_cons (pe_call GB hr (by rfl) gB FB.kp bB .nil pass0 (pa_cons (pe_call GL hr (by rfl) gL FL.kp bL .nil pass0 (pa_cons (pv 0) (pa_cons (pv 1) (pa_cons pe_int (pa_cons (pe_ix ix_list (pv 2) pe_int (fun _ _ => rfl)) pa_nil))))) pa_nil)) pa_nil)))
      (pss_cons (ps_for PassesOwn.never rfl (pi_list (pe_slice sl_list (pv 2) (po_some pe_int) po_none)) (pg_name (i := 4) scSets.nd rfl (.inl rfl))
        (pss_one (ps_set (i := 3) scSets.nd rfl (.inl rfl) (pe_call GE hr (by rfl) gE FE.kp bE .nil pass0 (pa_cons (pv 3) (pa_cons (pe_call GI hr (by rfl) gI FI.kp bI .nil pass0 (pa_cons (pv 0) (pa_cons (pv 1) (pa_cons (pv 4) pa_nil)))) pa_nil))))))
      (pss_one (ps_ret (pv 3))))), ?_⟩
    refine ⟨iv p, rfl, iv n, rfl, p, n, rfl, h0, hp, hn, hw, fun H1 a sm1 na ha => ?_⟩
    have hone := S.one
    have hdirs := S.dirs
    have hhead : (Kzt2.directions p n)[0]? = some ((Kzt2.directions p n).headD 0) := by
      cases e : Kzt2.directions p n with
      | nil =>
        rw [e] at hone
        simp at hone
      | cons d ds => rfl
    refine ⟨iv p, rfl, iv n, rfl, .ref a, rfl, a, _, 0, iv ((Kzt2.directions p n).headD 0), rfl, rfl, SqL.of ha, atI_nat (ivs_get hhead), p, n, 0, _, rfl, h0, hp, hn, fun H2 b sm2 nb hb => ?_⟩
    obtain ⟨hb1, hb2⟩ := lineAt_bounds (p := p) (n := n) (x := 0) (v := (Kzt2.directions p n).headD 0) h0 hp hw
    refine ⟨b, _, rfl, hb, hb1, hb2, fun H3 sm3 => ?_⟩
    refine ⟨by show 1 ≤ sizeLine; decide, fun l nl => ?_⟩
    have sm13 := (sm2.trans sm3)
    have ha3 := (same_upd (o := .lst [iv (bitsOf (Kzt2.lineAt p n 0 ((Kzt2.directions p n).headD 0)))]) nl) _ _ (sm13 _ _ ha)
    refine ⟨.ref a, rfl, 1, rfl, a, _, rfl, SqL.of ha3, fun t nt => ?_⟩
    rw [cut_tail]
    have hlt : t ≠ l := ne_free upd_same nt
    have hl0 : upd (upd H3 l (.lst [iv (bitsOf (Kzt2.lineAt p n 0 ((Kzt2.directions p n).headD 0)))])) t (.lst (ivs (Kzt2.directions p n).tail)) l = some (.lst (ivs (setsUpto p n 0))) := by
      rw [upd_ne hlt.symm, upd_same]
      rfl
    have ht0 : upd (upd H3 l (.lst [iv (bitsOf (Kzt2.lineAt p n 0 ((Kzt2.directions p n).headD 0)))])) t (.lst (ivs (Kzt2.directions p n).tail)) t = some (.lst (ivs (Kzt2.directions p n).tail)) := upd_same
    have smt : Same H (upd (upd H3 l (.lst [iv (bitsOf (Kzt2.lineAt p n 0 ((Kzt2.directions p n).headD 0)))])) t (.lst (ivs (Kzt2.directions p n).tail))) := (sm1.trans sm13).trans ((same_upd nl).trans (same_upd nt))
    have nl0 : H l = none := (sm1.trans sm13).free nl
    generalize upd (upd H3 l (.lst [iv (bitsOf (Kzt2.lineAt p n 0 ((Kzt2.directions p n).headD 0)))])) t (.lst (ivs (Kzt2.directions p n).tail)) = H4 at hl0 ht0 smt ⊢
    refine ⟨t, rfl, ⟨_, SqL.of ht0⟩, for_list (K := K) (a := t) (xs := ivs (Kzt2.directions p n).tail) (fun i σ H' => ∃ y4 c, σ = [some (iv p), some (iv n), some (.ref a), some (.ref c), y4] ∧ Same H4 H' ∧ H c = none ∧ H' c = some (.lst (ivs (setsUpto p n i))))
      ⟨none, l, rfl, Same.refl _, nl0, hl0⟩ ?_ ?_ ?_⟩
    · rintro i σ H' _ ⟨_, _, _, sm, _⟩
      exact sm.seq (SqL.of ht0)
    · rintro i x σ H' hi ⟨y4, c, rfl, sm, nc, hc⟩
      obtain ⟨v, hv, rfl⟩ := ivs_at hi
      have hi8 : i < 8 := by
        have := (List.getElem?_eq_some_iff.mp hv).1
        rw [List.length_tail] at this
        omega
      refine ⟨.ref c, rfl, iv p, rfl, iv n, rfl, iv v, rfl, p, n, v, rfl, h0, hp, hn, hw, fun H5 b5 sm5 nb5 hb5 => ?_⟩
      refine ⟨c, b5, _, _, rfl, sm5 _ _ hc, hb5, ?_, S.sizes i hi8, fun H6 b6 sm6 nb6 hb6 => ?_⟩
      · have := linesUpto_len p n v (p ^ n)
        unfold linesBits
        omega
      · refine ⟨_, b6, rfl, sm.trans (sm5.trans sm6), (smt.trans (sm.trans sm5)).free nb6, ?_⟩
        rw [setsUpto_succ hv]
        exact hb6
    · rintro σ H' ⟨y4, c, rfl, sm, nc, hc⟩
      rw [ivs_length] at hc
      exact ⟨_, rfl, q H' c (smt.trans sm) nc hc⟩
theorem scTop : FnScope ["p", "n", "bits"] ["p", "n"] (defScope sTop) := ⟨rfl, rfl, rfl, by decide +kernel, rfl, by decide +kernel, by decide +kernel⟩
theorem ok_top {f fS fC fP fN fU fD fA fL fT fE fI fB fX : Addr} {fd fdS fdC fdP fdN fdU fdD fdA fdL fdT fdE fdI fdB fdX : FuncData} (F : Fun K "fewest" "fewest" sTop f fd)
    (FS : Fun K "is_space" "is_space" sSpace fS fdS) (bS : Binds K fdS ["p", "n"] []) (gS : mg "is_space" = some (.ref fS))
    (FC : Fun K "count_points" "count_points" sCount fC fdC) (bC : Binds K fdC ["p", "n"] []) (gC : mg "count_points" = some (.ref fC))
    (FP : Fun K "is_point" "is_point" sPoint fP fdP) (bP : Binds K fdP ["p", "n", "x"] []) (gP : mg "is_point" = some (.ref fP))
    (FN : Fun K "numbers_of_point" "numbers_of_point" sNums fN fdN) (bN : Binds K fdN ["p", "n", "point"] []) (gN : mg "numbers_of_point" = some (.ref fN))
    (FU : Fun K "point_of_numbers" "point_of_numbers" sUp fU fdU) (bU : Binds K fdU ["p", "numbers"] []) (gU : mg "point_of_numbers" = some (.ref fU))
    (FD : Fun K "is_direction" "is_direction" sDir fD fdD) (bD : Binds K fdD ["p", "n", "v"] []) (gD : mg "is_direction" = some (.ref fD))
    (FA : Fun K "all_directions" "all_directions" sAll fA fdA) (bA : Binds K fdA ["p", "n"] []) (gA : mg "all_directions" = some (.ref fA))
    (FL : Fun K "points_of_line" "points_of_line" sPol fL fdL) (bL : Binds K fdL ["p", "n", "x", "v"] []) (gL : mg "points_of_line" = some (.ref fL))
    (FT : Fun K "sets_of_lines" "sets_of_lines" sSets fT fdT) (bT : Binds K fdT ["p", "n"] []) (gT : mg "sets_of_lines" = some (.ref fT))
    (FE : Fun K "each_with_each" "each_with_each" sEach fE fdE) (bE : Binds K fdE ["sets", "others"] []) (gE : mg "each_with_each" = some (.ref fE))
    (FI : Fun K "lines_as_bits" "lines_as_bits" sLines fI fdI) (bI : Binds K fdI ["p", "n", "v"] []) (gI : mg "lines_as_bits" = some (.ref fI))
    (FB : Fun K "bits_of_points" "bits_of_points" sBits fB fdB) (bB : Binds K fdB ["points"] []) (gB : mg "bits_of_points" = some (.ref fB))
    (FX : Fun K "count_of_bits" "count_of_bits" sPc fX fdX) (bX : Binds K fdX ["bits"] []) (gX : mg "count_of_bits" = some (.ref fX))
    (gR : mg "NOT_REACHED" = some (.int (-28) tR)) (mr : mg "reversed" = none) (ms : mg "sum" = none) (mli : mg "list" = none) (mn : mg "min" = none) (T : Txt K mg aP tM tW 0) : FnOk P w K mg base CX0 6 f fd ["p", "n"] spTop := by
  have GS : FnOk P w K mg base CX0 5 fS fdS ["p", "n"] spSpace := ok_space FS T
  have GT : FnOk P w K mg base CX0 5 fT fdT ["p", "n"] spSets := ok_sets FT FC bC gC FP bP gP FN bN gN FU bU gU FD bD gD FA bA gA FL bL gL FE bE gE FI bI gI FB bB gB mr ms mli T
  have GX : FnOk P w K mg base CX0 5 fX fdX ["bits"] spPc := ok_pc FX
  refine F.ok scTop (fun vs H Q E h => ?_) (fun cdv A outer s H vs Q E hr h => ?_)
  · obtain ⟨p, n, rfl, _⟩ := h
    rfl
  · obtain ⟨p, n, rfl, hp0, hn0, q⟩ := h
    obtain ⟨p, rfl⟩ := Int.eq_ofNat_of_zero_le hp0
    obtain ⟨n, rfl⟩ := Int.eq_ofNat_of_zero_le hn0
    refine ⟨_, pss_cons (ps_if (pt_not (pt_val (pe_call GS hr (by rfl) gS FS.kp bS .nil pass0 (pa_cons (pv 0) (pa_cons (pv 1) pa_nil))))) (pss_one (ps_ret (pe_lst (pa_cons (pe_glob (v := .int (-22)) (by rfl) T.gW ⟨_, rfl⟩) pa_nil)))) pss_nil)
      (pss_cons (ps_if (PW.pt (pw_or (PW.pt (pw_and (pt_cmpR op_eq (pv 1) pe_int (nomark _)) (pw_and1 (pt_cmpR op_eq (pv 0) pe_int (nomark _))))) (pw_or1 (PW.pt (pw_and (pt_cmpR op_eq (pv 1) pe_int (nomark _)) (pw_and1 (pt_cmpR op_ne (pv 0) pe_int (nomark _)))))))) (pss_one (ps_ret (pe_lst (pa_cons (pe_glob (v := .int (-28)) (by rfl) gR ⟨_, rfl⟩) pa_nil)))) pss_nil)
      (pss_one (ps_ret (pe_lst (pa_cons (pe_callB (cr_min rfl) (by rfl) mn (by decide +kernel) (pa_cons
        (pe_lc (own := [("bits", 2)]) (g := gName 2) (tt := tYes) (te := tCall spPc [] E0 (tCons (tVar 2) tNil)) (by rfl) scTop.nd (pi_list (pe_call GT hr (by rfl) gT FT.kp bT .nil pass0 (pa_cons (pv 0) (pa_cons (pv 1) pa_nil))))
          (blkOk_by (own := [("bits", 2)]) (N := ["p", "n", "bits"]) (sc := defScope sTop) (by decide +kernel))
          (fun _ _ _ _ _ => pg_name (i := 2) scTop.nd rfl (.inl rfl)) (fun _ _ _ _ _ => pts_nil)
          (fun _ _ _ _ _ => pe_call GX hr (by rfl) gX FX.kp bX .nil pass0 (pa_cons (pv 2) pa_nil))) pa_nil)) pa_nil))))), ?_⟩
    refine ⟨iv p, rfl, iv n, rfl, p, n, rfl, _, rfl, ?_⟩
    cases hok : Kzt1.okField p n with
    | false =>
      refine iteT ?_
      refine ⟨by show 1 ≤ sizeLine; decide, fun l nl => ?_⟩
      refine q _ l ?_
      rw [few_no p n hok, upd_same]
      rfl
    | true =>
      refine iteF ?_
      obtain ⟨hpc, hn1, hn3⟩ := ok_cases hok
      have h0 : 0 < p := by omega
      have hp : p ≤ 7 := by omega
      have hw := ok_pow hok
      have far : ((n = 2 ∧ p = 7) ∨ (n = 3 ∧ p ≠ 2)) → ∀ H1 l, Q (.ref l) (upd H1 l (.lst [V.int (-28)])) := fun hs H1 l => by
        refine q _ l ?_
        rw [few_far p n hok (small_not hs), upd_same]
        rfl
      have near : ¬ ((n = 2 ∧ p = 7) ∨ (n = 3 ∧ p ≠ 2)) → tRet (tLst (tCons (tCB (rMin K) (tCons (tLc (iList K (tCall spSets [] E0 (tCons (tVar 0) (tCons (tVar 1) tNil)))) (gName 2) tYes (tCall spPc [] E0 (tCons (tVar 2) tNil)) [2]) tNil)) tNil)) { nx := fun _ H' => Q .non H', rt := Q } [some (iv p), some (iv n), none] H := fun hs => by
        obtain ⟨hsm, S⟩ := small_table hok hs
        refine ⟨iv p, rfl, iv n, rfl, p, n, _, rfl, h0, hp, hn3, hw, S, fun H1 a sm1 na ha => ?_⟩
        refine ⟨a, rfl, ⟨_, SqL.of ha⟩, fun D nD => ?_⟩
        refine lc_list (K := K) (a := a) (xs := ivs (setsOf p n)) (fun j H3 => Same H1 H3 ∧ H3 D = some (.lst (ivs (((setsOf p n).take j).map pc)))) ⟨same_upd nD, upd_same⟩ ?_ ?_ ?_
        · rintro j H3 _ ⟨sm3, _⟩
          exact sm3.seq (SqL.of ha)
        · rintro j x H3 hj ⟨sm3, hD⟩
          obtain ⟨b, hb, rfl⟩ := ivs_at hj
          refine ⟨rfl, ?_⟩
          unfold tYes
          refine iteT ?_
          refine ⟨iv b, rfl, b, rfl, S.bits b (List.mem_of_getElem? hb), _, hD, ?_, same_new sm3 nD, ?_⟩
          · rw [ivs_length, List.length_map, List.length_take, sizeLine_eq]
            have h1 := S.sizes ((Kzt2.directions p n).tail.length) (by rw [List.length_tail]; have := S.one; have := S.dirs; omega)
            have h2 : (setsOf p n).length ≤ 5000 := h1
            omega
          · rw [upd_same, take_get hb, List.map_append, ivs_append]
            rfl
        · rintro H3 ⟨sm3, hD⟩
          rw [ivs_length, List.take_length] at hD
          refine ⟨D, nI ((setsOf p n).map pc), rfl, SqL.of (by rw [ivs_nI]; exact hD), ?_, fun m hm hle => ?_⟩
          · unfold nI
            rw [List.length_map]
            exact List.length_pos_of_mem S.has
          · have em : m = ((Kzt2.fewest p n : Nat) : Int) := by
              unfold nI at hm hle
              obtain ⟨c, hc, rfl⟩ := List.mem_map.mp hm
              have h1 := S.low c hc
              have h2 := hle _ (List.mem_map.mpr ⟨_, S.has, rfl⟩)
              omega
            subst em
            refine ⟨by show 1 ≤ sizeLine; decide, fun l nl => ?_⟩
            refine q _ l ?_
            rw [few_in p n hok hsm, upd_same]
            rfl
      have hn : n = 1 ∨ n = 2 ∨ n = 3 := by omega
      refine ⟨iv n, rfl, rfl, _, rfl, ?_⟩
      show if decide (iv n = iv 2) = true then _ else _
      rw [decide_iv]
      rcases hn with rfl | rfl | rfl
      · refine iteF ?_
        refine iteF ?_
        refine ⟨iv 1, rfl, rfl, _, rfl, ?_⟩
        refine iteF ?_
        refine iteF ?_
        exact near (by omega)
      · refine iteT ?_
        refine ⟨iv p, rfl, rfl, _, rfl, ?_⟩
        show if decide (iv p = iv 7) = true then _ else _
        rw [decide_iv]
        by_cases h7 : p = 7
        · rw [decide_eq_true h7]
          refine iteT ?_
          refine iteT ?_
          exact ⟨by show 1 ≤ sizeLine; decide, fun l nl => far (.inl ⟨rfl, h7⟩) _ l⟩
        · rw [decide_eq_false h7]
          refine iteF ?_
          refine ⟨iv 2, rfl, rfl, _, rfl, ?_⟩
          refine iteF ?_
          refine iteF ?_
          exact near (by omega)
      · refine iteF ?_
        refine iteF ?_
        refine ⟨iv 3, rfl, rfl, _, rfl, ?_⟩
        refine iteT ?_
        refine ⟨iv p, rfl, rfl, _, rfl, ?_⟩
        show if (!decide (iv p = iv 2)) = true then _ else _
        rw [decide_iv]
        by_cases h2 : p = 2
        · rw [decide_eq_true h2]
          refine iteF ?_
          exact near (by omega)
        · rw [decide_eq_false h2]
          refine iteT ?_
          exact ⟨by show 1 ≤ sizeLine; decide, fun l nl => far (.inr ⟨rfl, h2⟩) _ l⟩
end
end KM
namespace KM
open PySem PySem.Spec PyProof.Rows L2
theorem primes_at {K : PySem.W.Frag} {aP : Addr} {od : Option Addr} {t2 t3 t5 t7 n : Nat} {sl : Array (Option Value)}
    (l : K.lookup aP = some ⟨.type "tuple", od, .seq #[.int 2 t2, .int 3 t3, .int 5 t5, .int 7 t7] n, sl⟩) (H : Hp) : SqT K H aP (ivs [2, 3, 5, 7]) :=
  .inr ⟨_, _, _, l, rfl, rfl, (by show 4 ≤ sizeLine; decide), .cons ⟨_, rfl⟩ (.cons ⟨_, rfl⟩ (.cons ⟨_, rfl⟩ (.cons ⟨_, rfl⟩ .nil)))⟩
theorem all_mk {P : Program} {w : World} {K : PySem.W.Frag} {h : Heap} {mg : Str → Option Value} {fa aP f1 f2 f3 f4 f5 f6 f7 f8 f9 f10 f11 f12 f13 f14 : Addr} {t2 t3 t5 t7 nP tM tW tR : Nat} (X : K.In h) (G : h.Ns mainGlobals mg) (hfa : mg "fewest" = some (.ref fa))
    {odP od1 an1 od2 an2 od3 an3 od4 an4 od5 an5 od6 an6 od7 an7 od8 an8 od9 an9 od10 an10 od11 an11 od12 an12 od13 an13 od14 an14 : Option Addr} {slP sl1 sl2 sl3 sl4 sl5 sl6 sl7 sl8 sl9 sl10 sl11 sl12 sl13 sl14 : Array (Option Value)}
    {oc1 kV1 dc1 pm1 cd1 ct1 oc2 kV2 dc2 pm2 cd2 ct2 oc3 kV3 dc3 pm3 cd3 ct3 oc4 kV4 dc4 pm4 cd4 ct4 oc5 kV5 dc5 pm5 cd5 ct5 oc6 kV6 dc6 pm6 cd6 ct6 oc7 kV7 dc7 pm7 cd7 ct7 oc8 kV8 dc8 pm8 cd8 ct8 oc9 kV9 dc9 pm9 cd9 ct9 oc10 kV10 dc10 pm10 cd10 ct10 oc11 kV11 dc11 pm11 cd11 ct11 oc12 kV12 dc12 pm12 cd12 ct12 oc13 kV13 dc13 pm13 cd13 ct13 oc14 kV14 dc14 pm14 cd14 ct14 : Value}
    (aPr : PySem.W.nsIn K mainGlobals "PRIMES" = some (some (.ref aP))) (lPr : K.lookup aP = some ⟨.type "tuple", odP, .seq #[.int 2 t2, .int 3 t3, .int 5 t5, .int 7 t7] nP, slP⟩)
    (kM : PySem.W.nsIn K mainGlobals "MOST_NUMBERS" = some (some (.int 3 tM)))
    (kW : PySem.W.nsIn K mainGlobals "WRONG_FORM" = some (some (.int (-22) tW)))
    (kR : PySem.W.nsIn K mainGlobals "NOT_REACHED" = some (some (.int (-28) tR)))
    (z1 : PySem.W.nsIn K mainGlobals "range" = some none)
    (z2 : PySem.W.nsIn K mainGlobals "reversed" = some none)
    (z3 : PySem.W.nsIn K mainGlobals "sum" = some none)
    (z4 : PySem.W.nsIn K mainGlobals "list" = some none)
    (z5 : PySem.W.nsIn K mainGlobals "min" = some none)
    (a1 : PySem.W.nsIn K mainGlobals "fewest" = some (some (.ref f1))) (l1 : K.lookup f1 = some ⟨oc1, od1, .func (PySem.W.fnOf "fewest" "fewest" (defArgs sTop) (defBody sTop) (defScope sTop) .none kV1 dc1 pm1 an1 cd1 ct1), sl1⟩) (c1 : PySem.W.codeIn K cd1 "fewest" = true) (k1 : PySem.W.keepIn K (.ref f1) = true)
    (a2 : PySem.W.nsIn K mainGlobals "is_space" = some (some (.ref f2))) (l2 : K.lookup f2 = some ⟨oc2, od2, .func (PySem.W.fnOf "is_space" "is_space" (defArgs sSpace) (defBody sSpace) (defScope sSpace) .none kV2 dc2 pm2 an2 cd2 ct2), sl2⟩) (c2 : PySem.W.codeIn K cd2 "is_space" = true) (k2 : PySem.W.keepIn K (.ref f2) = true)
    (a3 : PySem.W.nsIn K mainGlobals "count_points" = some (some (.ref f3))) (l3 : K.lookup f3 = some ⟨oc3, od3, .func (PySem.W.fnOf "count_points" "count_points" (defArgs sCount) (defBody sCount) (defScope sCount) .none kV3 dc3 pm3 an3 cd3 ct3), sl3⟩) (c3 : PySem.W.codeIn K cd3 "count_points" = true) (k3 : PySem.W.keepIn K (.ref f3) = true)
    (a4 : PySem.W.nsIn K mainGlobals "is_point" = some (some (.ref f4))) (l4 : K.lookup f4 = some ⟨oc4, od4, .func (PySem.W.fnOf "is_point" "is_point" (defArgs sPoint) (defBody sPoint) (defScope sPoint) .none kV4 dc4 pm4 an4 cd4 ct4), sl4⟩) (c4 : PySem.W.codeIn K cd4 "is_point" = true) (k4 : PySem.W.keepIn K (.ref f4) = true)
    (a5 : PySem.W.nsIn K mainGlobals "numbers_of_point" = some (some (.ref f5))) (l5 : K.lookup f5 = some ⟨oc5, od5, .func (PySem.W.fnOf "numbers_of_point" "numbers_of_point" (defArgs sNums) (defBody sNums) (defScope sNums) .none kV5 dc5 pm5 an5 cd5 ct5), sl5⟩) (c5 : PySem.W.codeIn K cd5 "numbers_of_point" = true) (k5 : PySem.W.keepIn K (.ref f5) = true)
    (a6 : PySem.W.nsIn K mainGlobals "point_of_numbers" = some (some (.ref f6))) (l6 : K.lookup f6 = some ⟨oc6, od6, .func (PySem.W.fnOf "point_of_numbers" "point_of_numbers" (defArgs sUp) (defBody sUp) (defScope sUp) .none kV6 dc6 pm6 an6 cd6 ct6), sl6⟩) (c6 : PySem.W.codeIn K cd6 "point_of_numbers" = true) (k6 : PySem.W.keepIn K (.ref f6) = true)
    (a7 : PySem.W.nsIn K mainGlobals "is_direction" = some (some (.ref f7))) (l7 : K.lookup f7 = some ⟨oc7, od7, .func (PySem.W.fnOf "is_direction" "is_direction" (defArgs sDir) (defBody sDir) (defScope sDir) .none kV7 dc7 pm7 an7 cd7 ct7), sl7⟩) (c7 : PySem.W.codeIn K cd7 "is_direction" = true) (k7 : PySem.W.keepIn K (.ref f7) = true)
    (a8 : PySem.W.nsIn K mainGlobals "all_directions" = some (some (.ref f8))) (l8 : K.lookup f8 = some ⟨oc8, od8, .func (PySem.W.fnOf "all_directions" "all_directions" (defArgs sAll) (defBody sAll) (defScope sAll) .none kV8 dc8 pm8 an8 cd8 ct8), sl8⟩) (c8 : PySem.W.codeIn K cd8 "all_directions" = true) (k8 : PySem.W.keepIn K (.ref f8) = true)
    (a9 : PySem.W.nsIn K mainGlobals "points_of_line" = some (some (.ref f9))) (l9 : K.lookup f9 = some ⟨oc9, od9, .func (PySem.W.fnOf "points_of_line" "points_of_line" (defArgs sPol) (defBody sPol) (defScope sPol) .none kV9 dc9 pm9 an9 cd9 ct9), sl9⟩) (c9 : PySem.W.codeIn K cd9 "points_of_line" = true) (k9 : PySem.W.keepIn K (.ref f9) = true)
    (a10 : PySem.W.nsIn K mainGlobals "sets_of_lines" = some (some (.ref f10))) (l10 : K.lookup f10 = some ⟨oc10, od10, .func (PySem.W.fnOf "sets_of_lines" "sets_of_lines" (defArgs sSets) (defBody sSets) (defScope sSets) .none kV10 dc10 pm10 an10 cd10 ct10), sl10⟩) (c10 : PySem.W.codeIn K cd10 "sets_of_lines" = true) (k10 : PySem.W.keepIn K (.ref f10) = true)
    (a11 : PySem.W.nsIn K mainGlobals "each_with_each" = some (some (.ref f11))) (l11 : K.lookup f11 = some ⟨oc11, od11, .func (PySem.W.fnOf "each_with_each" "each_with_each" (defArgs sEach) (defBody sEach) (defScope sEach) .none kV11 dc11 pm11 an11 cd11 ct11), sl11⟩) (c11 : PySem.W.codeIn K cd11 "each_with_each" = true) (k11 : PySem.W.keepIn K (.ref f11) = true)
    (a12 : PySem.W.nsIn K mainGlobals "lines_as_bits" = some (some (.ref f12))) (l12 : K.lookup f12 = some ⟨oc12, od12, .func (PySem.W.fnOf "lines_as_bits" "lines_as_bits" (defArgs sLines) (defBody sLines) (defScope sLines) .none kV12 dc12 pm12 an12 cd12 ct12), sl12⟩) (c12 : PySem.W.codeIn K cd12 "lines_as_bits" = true) (k12 : PySem.W.keepIn K (.ref f12) = true)
    (a13 : PySem.W.nsIn K mainGlobals "bits_of_points" = some (some (.ref f13))) (l13 : K.lookup f13 = some ⟨oc13, od13, .func (PySem.W.fnOf "bits_of_points" "bits_of_points" (defArgs sBits) (defBody sBits) (defScope sBits) .none kV13 dc13 pm13 an13 cd13 ct13), sl13⟩) (c13 : PySem.W.codeIn K cd13 "bits_of_points" = true) (k13 : PySem.W.keepIn K (.ref f13) = true)
    (a14 : PySem.W.nsIn K mainGlobals "count_of_bits" = some (some (.ref f14))) (l14 : K.lookup f14 = some ⟨oc14, od14, .func (PySem.W.fnOf "count_of_bits" "count_of_bits" (defArgs sPc) (defBody sPc) (defScope sPc) .none kV14 dc14 pm14 an14 cd14 ct14), sl14⟩) (c14 : PySem.W.codeIn K cd14 "count_of_bits" = true) (k14 : PySem.W.keepIn K (.ref f14) = true) :
    ∃ fd : FuncData, (∀ (s : Shared) (us : List Value), us.length = (["p", "n"] : List Str).length → BindsTo s fd ⟨us, []⟩ ((["p", "n"] : List Str).zip us)) ∧ ∀ base : Heap, K.In base → base.Ns mainGlobals mg → FnOk P w K mg base CX0 6 fa fd ["p", "n"] (spTop) := by
  have e := hfa.symm.trans (PySem.W.mg_of X G a1)
  cases e
  have T : Txt K mg aP tM tW 0 := ⟨PySem.W.mg_of X G aPr, primes_at lPr, PySem.W.mg_of X G kM, PySem.W.mg_of X G kW, PySem.W.mg_none_of X G z1⟩
  have F1 := fun_mk (st := sTop) l1 c1 k1
  have F2 := fun_mk (st := sSpace) l2 c2 k2
  have F3 := fun_mk (st := sCount) l3 c3 k3
  have F4 := fun_mk (st := sPoint) l4 c4 k4
  have F5 := fun_mk (st := sNums) l5 c5 k5
  have F6 := fun_mk (st := sUp) l6 c6 k6
  have F7 := fun_mk (st := sDir) l7 c7 k7
  have F8 := fun_mk (st := sAll) l8 c8 k8
  have F9 := fun_mk (st := sPol) l9 c9 k9
  have F10 := fun_mk (st := sSets) l10 c10 k10
  have F11 := fun_mk (st := sEach) l11 c11 k11
  have F12 := fun_mk (st := sLines) l12 c12 k12
  have F13 := fun_mk (st := sBits) l13 c13 k13
  have F14 := fun_mk (st := sPc) l14 c14 k14
  have b2 := F2.binds (ps := ["p", "n"]) fun _ _ _ _ _ _ us hl => match us, hl with | [_, _], _ => rfl
  have b3 := F3.binds (ps := ["p", "n"]) fun _ _ _ _ _ _ us hl => match us, hl with | [_, _], _ => rfl
  have b4 := F4.binds (ps := ["p", "n", "x"]) fun _ _ _ _ _ _ us hl => match us, hl with | [_, _, _], _ => rfl
  have b5 := F5.binds (ps := ["p", "n", "point"]) fun _ _ _ _ _ _ us hl => match us, hl with | [_, _, _], _ => rfl
  have b6 := F6.binds (ps := ["p", "numbers"]) fun _ _ _ _ _ _ us hl => match us, hl with | [_, _], _ => rfl
  have b7 := F7.binds (ps := ["p", "n", "v"]) fun _ _ _ _ _ _ us hl => match us, hl with | [_, _, _], _ => rfl
  have b8 := F8.binds (ps := ["p", "n"]) fun _ _ _ _ _ _ us hl => match us, hl with | [_, _], _ => rfl
  have b9 := F9.binds (ps := ["p", "n", "x", "v"]) fun _ _ _ _ _ _ us hl => match us, hl with | [_, _, _, _], _ => rfl
  have b10 := F10.binds (ps := ["p", "n"]) fun _ _ _ _ _ _ us hl => match us, hl with | [_, _], _ => rfl
  have b11 := F11.binds (ps := ["sets", "others"]) fun _ _ _ _ _ _ us hl => match us, hl with | [_, _], _ => rfl
  have b12 := F12.binds (ps := ["p", "n", "v"]) fun _ _ _ _ _ _ us hl => match us, hl with | [_, _, _], _ => rfl
  have b13 := F13.binds (ps := ["points"]) fun _ _ _ _ _ _ us hl => match us, hl with | [_], _ => rfl
  have b14 := F14.binds (ps := ["bits"]) fun _ _ _ _ _ _ us hl => match us, hl with | [_], _ => rfl
  exact ⟨PySem.W.fnOf "fewest" "fewest" (defArgs sTop) (defBody sTop) (defScope sTop) .none kV1 dc1 pm1 an1 cd1 ct1, fun s us hu => match us, hu with | [_, _], _ => .of_eq rfl, fun base _ _ =>
    ok_top F1 F2 b2 (PySem.W.mg_of X G a2) F3 b3 (PySem.W.mg_of X G a3) F4 b4 (PySem.W.mg_of X G a4) F5 b5 (PySem.W.mg_of X G a5) F6 b6 (PySem.W.mg_of X G a6) F7 b7 (PySem.W.mg_of X G a7) F8 b8 (PySem.W.mg_of X G a8) F9 b9 (PySem.W.mg_of X G a9) F10 b10 (PySem.W.mg_of X G a10) F11 b11 (PySem.W.mg_of X G a11) F12 b12 (PySem.W.mg_of X G a12) F13 b13 (PySem.W.mg_of X G a13) F14 b14 (PySem.W.mg_of X G a14) (PySem.W.mg_of X G kR) (PySem.W.mg_none_of X G z2) (PySem.W.mg_none_of X G z3) (PySem.W.mg_none_of X G z4) (PySem.W.mg_none_of X G z5) T⟩
end KM
open PySem PySem.W PyProof.Rows
set_option maxRecDepth 100000 in
set_option maxHeartbeats 8000000 in
theorem PySem.Challenge.cw_everywaydesk_s07_fewest_holds : PySem.Challenge.rw_everywaydesk_s07_fewest.Holds := by
  w_on; k_headS; (case hw => exact ⟨[.int 2, .int 1], by decide +kernel, by decide +kernel⟩)
  k_fillS
  refine L2.walk_specK (r := PySem.Challenge.rw_everywaydesk_s07_fewest) (k := 6) (CX := L2.CX0) (ps := ["p", "n"]) (sp := fun K => KM.spTop) (by decide +kernel) rfl rfl ⟨rfl, by decide, by decide⟩ (fun w h Y => PySem.W.kIn_of Y) ?F ?S (fun _ _ _ _ z => z)
  case F =>
    intro w mg fa h Y KX G hmg
    refine' KM.all_mk KX G hmg ?aPr ?lPr ?kM ?kW ?kR ?z1 ?z2 ?z3 ?z4 ?z5 ?a1 ?l1 ?c1 ?k1 ?a2 ?l2 ?c2 ?k2 ?a3 ?l3 ?c3 ?k3 ?a4 ?l4 ?c4 ?k4 ?a5 ?l5 ?c5 ?k5 ?a6 ?l6 ?c6 ?k6 ?a7 ?l7 ?c7 ?k7 ?a8 ?l8 ?c8 ?k8 ?a9 ?l9 ?c9 ?k9 ?a10 ?l10 ?c10 ?k10 ?a11 ?l11 ?c11 ?k11 ?a12 ?l12 ?c12 ?k12 ?a13 ?l13 ?c13 ?k13 ?a14 ?l14 ?c14 ?k14
    (case aPr => k_is)
    (case lPr => k_is)
    (case kM => k_is)
    (case kW => k_is)
    (case kR => k_is)
    (case z1 => k_is)
    (case z2 => k_is)
    (case z3 => k_is)
    (case z4 => k_is)
    (case z5 => k_is)
    (case a1 => k_is)
    (case l1 => k_is)
    (case c1 => k_is)
    (case k1 => k_is)
    (case a2 => k_is)
    (case l2 => k_is)
    (case c2 => k_is)
    (case k2 => k_is)
    (case a3 => k_is)
    (case l3 => k_is)
    (case c3 => k_is)
    (case k3 => k_is)
    (case a4 => k_is)
    (case l4 => k_is)
    (case c4 => k_is)
    (case k4 => k_is)
    (case a5 => k_is)
    (case l5 => k_is)
    (case c5 => k_is)
    (case k5 => k_is)
    (case a6 => k_is)
    (case l6 => k_is)
    (case c6 => k_is)
    (case k6 => k_is)
    (case a7 => k_is)
    (case l7 => k_is)
    (case c7 => k_is)
    (case k7 => k_is)
    (case a8 => k_is)
    (case l8 => k_is)
    (case c8 => k_is)
    (case k8 => k_is)
    (case a9 => k_is)
    (case l9 => k_is)
    (case c9 => k_is)
    (case k9 => k_is)
    (case a10 => k_is)
    (case l10 => k_is)
    (case c10 => k_is)
    (case k10 => k_is)
    (case a11 => k_is)
    (case l11 => k_is)
    (case c11 => k_is)
    (case k11 => k_is)
    (case a12 => k_is)
    (case l12 => k_is)
    (case c12 => k_is)
    (case k12 => k_is)
    (case a13 => k_is)
    (case l13 => k_is)
    (case c13 => k_is)
    (case k13 => k_is)
    (case a14 => k_is)
    (case l14 => k_is)
    (case c14 => k_is)
    (case k14 => k_is)
  case S =>
    intro K H xs a hO hwi hask hx
    obtain ⟨p, n, u⟩ := a
    cases hx with
    | cons h1 r1 =>
      cases r1 with
      | cons h2 r2 =>
        cases r2
        cases h1
        cases h2
        have q : (Codec.inInt 0 4294967295 p && (Codec.inInt 0 4294967295 n && true)) = true := hwi
        rw [Bool.and_eq_true, Bool.and_eq_true] at q
        have lo : ∀ z : Int, Codec.inInt 0 4294967295 z = true → 0 ≤ z := fun z hz => by
          unfold Codec.inInt at hz
          simp only [Bool.and_eq_true, decide_eq_true_eq] at hz
          exact hz.1
        exact ⟨p, n, rfl, lo _ q.1, lo _ q.2.1, fun H' r hr => .lst (L2.SqL.of hr) (L2.dw_ints _)⟩
#print axioms PySem.Challenge.cw_everywaydesk_s07_fewest_holds
