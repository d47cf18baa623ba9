import PyProof.Rows.All
import Wide.All
import OpenK.AllK
import Wide.FinOn
import Open.SpecLaws
import KE.OsGo
import HandS.ForSpec
import HandS.Comp
import HandS.Iter
import HandS.Walk
import PySem.Challenge.RW_everywaydesk_s01_directions
set_option Elab.async false
set_option linter.all false
set_option maxRecDepth 100000
set_option maxHeartbeats 2000000
namespace KM
open Kzt1 (coords pointNo space okField)

/-- reversed Horner -/
def hor (p : Nat) (l : List Nat) : Nat := l.foldr (fun c a => a * p + c) 0

def isDir (p n v : Nat) : Bool := decide (v < p ^ n) && ((coords p n v).find? (fun x => x != 0) == some 1)

theorem directions_eq (p n : Nat) : Kzt2.directions p n = (List.range (p ^ n)).filter (isDir p n) := by
  unfold Kzt2.directions space
  apply List.filter_congr
  intro v hv
  have := List.mem_range.mp hv
  simp [isDir, this]

theorem directions_contains (p n v : Nat) : (Kzt2.directions p n).contains v = isDir p n v := by
  rw [directions_eq]
  cases h : isDir p n v with
  | true =>
    have hlt : v < p ^ n := by
      simp [isDir] at h
      exact h.1
    simp [List.contains_iff_mem, hlt, h]
  | false =>
    simp [h]

theorem coords_length (p n x : Nat) : (coords p n x).length = n := by simp [coords]
theorem coords_succ (p n x : Nat) : coords p (n + 1) x = coords p n x ++ [x / p ^ n % p] := by
  simp [coords, List.range_succ]
theorem coords_get (p n x i : Nat) (h : i < n) : (coords p n x)[i]? = some (x / p ^ i % p) := by
  simp [coords, h]

theorem sum_from (p : Nat) : ∀ (l : List Nat) (k a : Nat), (∀ c ∈ l, c < p) →
    ((l.zipIdx k).map fun y => y.1 % p * p ^ y.2).foldl (· + ·) a = a + hor p l * p ^ k
  | [], k, a, _ => by simp [hor]
  | c :: l, k, a, h => by
    have hc : c < p := h c (by simp)
    rw [List.zipIdx_cons, List.map_cons, List.foldl_cons, sum_from p l (k + 1) _ (fun d hd => h d (by simp [hd]))]
    show a + c % p * p ^ k + hor p l * p ^ (k + 1) = a + (hor p l * p + c) * p ^ k
    rw [Nat.mod_eq_of_lt hc, Nat.pow_succ, Nat.add_mul, Nat.mul_assoc (hor p l) p, Nat.mul_comm p (p ^ k)]
    omega

theorem pointNo_eq (p : Nat) (l : List Nat) (h : ∀ c ∈ l, c < p) : pointNo p l = hor p l := by
  unfold pointNo
  rw [sum_from p l 0 0 h]
  simp

/-- the numbers of the t-th point of a line -/
def lineNums (p n x v t : Nat) : List Nat := (List.range n).map fun i => (x / p ^ i % p + t * (v / p ^ i % p)) % p

theorem shifted_eq (p n x v t : Nat) (hp : 0 < p) : Kzt2.shifted p n x v t = hor p (lineNums p n x v t) := by
  have e : (((coords p n x).zip (coords p n v)).map fun y => (y.1 + t * y.2) % p) = lineNums p n x v t := by
    simp [coords, lineNums, List.zip_map', List.map_map, Function.comp_def]
  unfold Kzt2.shifted
  rw [e, pointNo_eq]
  intro c hc
  simp [lineNums] at hc
  obtain ⟨i, _, rfl⟩ := hc
  exact Nat.mod_lt _ hp

theorem lineAt_eq (p n x v : Nat) (hp : 0 < p) : Kzt2.lineAt p n x v = (List.range p).map fun t => hor p (lineNums p n x v t) := by
  unfold Kzt2.lineAt
  apply List.map_congr_left
  intro t _
  exact shifted_eq p n x v t hp

theorem ok_cases {p n : Nat} (h : okField p n = true) : (p = 2 ∨ p = 3 ∨ p = 5 ∨ p = 7) ∧ 1 ≤ n ∧ n ≤ 3 := by
  simp [okField] at h
  omega
theorem ok_pow {p n : Nat} (h : okField p n = true) : p ^ n ≤ 343 := by
  obtain ⟨a, b, c⟩ := ok_cases h
  have : n = 1 ∨ n = 2 ∨ n = 3 := by omega
  rcases a with rfl | rfl | rfl | rfl <;> rcases this with rfl | rfl | rfl <;> decide
/-- the elements of a list, walked from its end -/
theorem hor_cons (p c : Nat) (l : List Nat) : hor p (c :: l) = hor p l * p + c := rfl
theorem hor_drop (p : Nat) (l : List Nat) (i c : Nat) (h : l[l.length - 1 - i]? = some c) (hi : i < l.length) :
    hor p (l.drop (l.length - (i + 1))) = hor p (l.drop (l.length - i)) * p + c := by
  have e : l.length - (i + 1) = l.length - 1 - i := by omega
  have hlt : l.length - 1 - i < l.length := by omega
  rw [e, List.drop_eq_getElem_cons hlt, hor_cons]
  have e2 : l.length - 1 - i + 1 = l.length - i := by omega
  rw [e2]
  congr 1
  rw [List.getElem?_eq_getElem hlt] at h
  exact Option.some.inj h

theorem find_none_take {l : List Nat} {i : Nat} {c : Nat} (h : (l.take i).find? (fun x => x != 0) = none) (hc : l[i]? = some c) (c0 : c = 0) :
    (l.take (i + 1)).find? (fun x => x != 0) = none := by
  rw [List.take_add_one, hc, List.find?_append, h]
  simp [c0]
theorem find_some_take {l : List Nat} {i : Nat} {c : Nat} (h : (l.take i).find? (fun x => x != 0) = none) (hc : l[i]? = some c) (c0 : c ≠ 0) :
    l.find? (fun x => x != 0) = some c := by
  have hlt : i < l.length := by
    rcases Nat.lt_or_ge i l.length with q | q
    · exact q
    · rw [List.getElem?_eq_none q] at hc
      cases hc
  have e : l = l.take i ++ l.drop i := (List.take_append_drop i l).symm
  have ed : l.drop i = c :: l.drop (i + 1) := by
    rw [List.drop_eq_getElem_cons hlt]
    rw [List.getElem?_eq_getElem hlt] at hc
    rw [Option.some.inj hc]
  rw [e, List.find?_append, h, ed]
  simp [c0]
end KM
namespace KM
open PySem PySem.Spec PyProof.Rows L2
def topS (i : Nat) : Stmt := PySem.Challenge.pw_everywaydesk_s01_directions.main.body.getD i (.Pass ⟨0, 0, 0, 0⟩)
abbrev sTop : Stmt := topS 4
abbrev sSpace : Stmt := topS 5
abbrev sCount : Stmt := topS 6
abbrev sPoint : Stmt := topS 7
abbrev sNums : Stmt := topS 8
abbrev sDir : Stmt := topS 9
abbrev sAll : Stmt := topS 10
end KM
namespace KM
open PySem PySem.Spec PyProof.Rows L2
abbrev iv (k : Nat) : V := .int (k : Int)
def ivs (l : List Nat) : List V := l.map iv
theorem ivs_length (l : List Nat) : (ivs l).length = l.length := List.length_map ..
theorem ivs_append (a b : List Nat) : ivs (a ++ b) = ivs a ++ ivs b := List.map_append ..
theorem ivs_get {l : List Nat} {i : Nat} {c : Nat} (h : l[i]? = some c) : (ivs l)[i]? = some (iv c) := by
  unfold ivs
  rw [List.getElem?_map, h]
  rfl
theorem ivs_at {l : List Nat} {i : Nat} {x : V} (h : (ivs l)[i]? = some x) : ∃ c, l[i]? = some c ∧ x = iv c := by
  unfold ivs at h
  rw [List.getElem?_map] at h
  cases e : l[i]? with
  | none =>
    rw [e] at h
    cases h
  | some c =>
    rw [e] at h
    exact ⟨c, rfl, (Option.some.inj h).symm⟩
theorem same_upd {H : Hp} {p : Addr} {o : HO} (h : H p = none) : Same H (upd H p o) := fun b x e => by
  rw [upd_ne (ne_of_none e h)]
  exact e
theorem same_new {H H' : Hp} {p : Addr} {o : HO} (s : Same H H') (h : H p = none) : Same H (upd H' p o) := fun b x e => by
  rw [upd_ne (ne_of_none e h)]
  exact s _ _ e
theorem ne_free {H : Hp} {a b : Addr} {o : HO} (h : H a = some o) (n : H b = none) : b ≠ a := fun e => by
  rw [e, h] at n
  cases n
theorem decide_iv (a b : Nat) : decide (iv a = iv b) = decide (a = b) := by
  by_cases h : a = b
  · subst h; simp
  · have : iv a ≠ iv b := fun e => h (by have := V.int.inj e; omega)
    simp [h, this]
theorem sz {n : Nat} (h : n ≤ 1000) : n < sizeLine := small1000 h

structure Txt (K : PySem.W.Frag) (mg : Str → Option Value) (aP : Addr) (tM tW tN : Nat) : Prop where
  gP : mg "PRIMES" = some (.ref aP)
  hP : ∀ H : Hp, SqT K H aP (ivs [2, 3, 5, 7])
  gM : mg "MOST_NUMBERS" = some (.int 3 tM)
  gW : mg "WRONG_FORM" = some (.int (-22) tW)
  range : mg "range" = none

/-! ### the promises -/
def spSpace : Sp := fun vs H Q _ => ∃ p n : Nat, vs = [iv p, iv n] ∧ Q (.bl (Kzt1.okField p n)) H
def spCount : Sp := fun vs H Q _ => ∃ p n : Nat, vs = [iv p, iv n] ∧ p ≤ 7 ∧ n ≤ 3 ∧ Q (iv (p ^ n)) H
def spPoint : Sp := fun vs H Q _ => ∃ p n x : Nat, vs = [iv p, iv n, iv x] ∧ p ≤ 7 ∧ n ≤ 3 ∧ Q (.bl (decide (x < p ^ n))) H
def spNums : Sp := fun vs H Q _ => ∃ p n x : Nat, vs = [iv p, iv n, iv x] ∧ 0 < p ∧ p ≤ 7 ∧ n ≤ 3 ∧ ∀ (H' : Hp) (a : Addr), Same H H' → H a = none → H' a = some (.lst (ivs (Kzt1.coords p n x))) → Q (.ref a) H'
def spDir : Sp := fun vs H Q _ => ∃ p n v : Nat, vs = [iv p, iv n, iv v] ∧ 0 < p ∧ p ≤ 7 ∧ n ≤ 3 ∧ ∀ H' : Hp, Same H H' → Q (.bl (isDir p n v)) H'

section
variable {P : Program} {w : World} {K : PySem.W.Frag} {mg : Str → Option Value} {base : Heap} {aP : Addr} {tM tW tN : Nat}

theorem scSpace : FnScope ["p", "n"] ["p", "n"] (defScope sSpace) := ⟨rfl, rfl, rfl, by decide +kernel, rfl, by decide +kernel, by decide +kernel⟩
theorem in_primes (p : Nat) : inV (iv p) (ivs [2, 3, 5, 7]) = (p == 2 || p == 3 || p == 5 || p == 7) := by
  have e : ∀ q : Nat, eqV (iv q) (iv p) = (p == q) := fun q => by
    show ((q : Int) == (p : Int)) = (p == q)
    rw [Bool.eq_iff_iff]
    simp only [beq_iff_eq]
    omega
  show (eqV (iv 2) (iv p) || (eqV (iv 3) (iv p) || (eqV (iv 5) (iv p) || (eqV (iv 7) (iv p) || false)))) = _
  rw [e, e, e, e, Bool.or_false, Bool.or_assoc, Bool.or_assoc]
theorem ok_space {f : Addr} {fd : FuncData} {k : Nat} (F : Fun K "is_space" "is_space" sSpace f fd) (T : Txt K mg aP tM tW tN) : FnOk P w K mg base CX0 (k + 1) f fd ["p", "n"] spSpace := by
  refine F.ok scSpace (fun vs H Q E h => ?_) (fun cdv A outer s H vs Q E hr h => ?_)
  · obtain ⟨p, n, rfl, _⟩ := h
    rfl
  · obtain ⟨p, n, rfl, q⟩ := h
    refine ⟨_, pss_one (ps_ret (pe_and (pe_cmpR op_in_seq (pv 0) (pe_glob (v := .ref aP) (by rfl) T.gP rfl) (by rfl)) (pe_one (pe_chain op_le op_le pe_int (pv 1) (pe_glob (v := .int 3) (by rfl) T.gM ⟨_, rfl⟩))))), ?_⟩
    refine ⟨iv p, rfl, aP, ivs [2, 3, 5, 7], rfl, .inr (T.hP H), rfl, rfl, _, rfl, ?_⟩
    show if inV (iv p) (ivs [2, 3, 5, 7]) = true then _ else _
    rw [in_primes]
    refine ite2 (fun e => ?_) (fun e => ?_)
    · refine ⟨iv n, rfl, 1, n, rfl, rfl, _, rfl, ite2 (fun e1 => ?_) (fun e1 => ?_)⟩
      · refine ⟨n, 3, rfl, rfl, ?_⟩
        have e2 : Kzt1.okField p n = decide ((n : Int) ≤ 3) := by
          have h1 : 1 ≤ n := by have := of_decide_eq_true e1; omega
          unfold Kzt1.okField
          rw [e, decide_eq_true h1, Bool.true_and, Bool.true_and]
          exact decide_eq_decide.mpr (by omega)
        show Q (.bl (decide ((n : Int) ≤ 3))) H
        rw [← e2]
        exact q
      · have h1 : ¬ 1 ≤ n := fun z => e1 (decide_eq_true (by omega))
        have e2 : Kzt1.okField p n = false := by
          unfold Kzt1.okField
          rw [decide_eq_false h1, Bool.and_false, Bool.false_and]
        show Q (.bl false) H
        rw [← e2]
        exact q
    · have e2 : Kzt1.okField p n = false := by
        unfold Kzt1.okField
        rw [Bool.eq_false_iff.mpr e, Bool.false_and, Bool.false_and]
      show Q (.bl false) H
      rw [← e2]
      exact q

theorem scCount : FnScope ["p", "n", "count", "place"] ["p", "n"] (defScope sCount) := ⟨rfl, rfl, rfl, by decide +kernel, rfl, by decide +kernel, by decide +kernel⟩
theorem ok_count {f : Addr} {fd : FuncData} {k : Nat} (F : Fun K "count_points" "count_points" sCount f fd) (T : Txt K mg aP tM tW tN) : FnOk P w K mg base CX0 (k + 1) f fd ["p", "n"] spCount := by
  refine F.ok scCount (fun vs H Q E h => ?_) (fun cdv A outer s H vs Q E hr h => ?_)
  · obtain ⟨p, n, rfl, _⟩ := h
    rfl
  · obtain ⟨p, n, rfl, hp, hn, q⟩ := h
    refine ⟨_, pss_cons (ps_set (i := 2) scCount.nd rfl (.inl rfl) pe_int)
      (pss_cons (ps_for PassesOwn.never rfl (pi_range1 (by rfl) T.range (pa_cons (pv 1) pa_nil)) (pg_name (i := 3) scCount.nd rfl (.inl rfl))
        (pss_one (ps_set (i := 2) scCount.nd rfl (.inl rfl) (pe_op op_mul (pv 2) (pv 0)))))
      (pss_one (ps_ret (pv 2)))), ?_⟩
    refine ⟨iv n, rfl, (n : Int), rfl, by omega, by omega, for_range (n := (n : Int).toNat) (fun i σ H' => ∃ y, σ = [some (iv p), some (iv n), some (iv (p ^ i)), y] ∧ H' = H) ⟨none, rfl, rfl⟩ ?_ ?_⟩
    · rintro i σ H' hi ⟨y, rfl, rfl⟩
      refine ⟨iv (p ^ i), rfl, iv p, rfl, _, _, rfl, rfl, .inr ⟨by omega, by omega⟩, some (.int (0 + (i : Int))), ?_, rfl⟩
      show [some (iv p), some (iv n), some (V.int ((p ^ i : Nat) * (p : Int))), _] = _
      rw [show ((p ^ i : Nat) * (p : Int)) = ((p ^ (i + 1) : Nat) : Int) by rw [Nat.pow_succ, Int.natCast_mul]]
    · rintro σ H' ⟨y, rfl, rfl⟩
      rw [Int.toNat_natCast]
      exact ⟨_, rfl, q⟩

theorem scPoint : FnScope ["p", "n", "x"] ["p", "n", "x"] (defScope sPoint) := ⟨rfl, rfl, rfl, by decide +kernel, rfl, by decide +kernel, by decide +kernel⟩
theorem ok_point {f fC : Addr} {fd fdC : FuncData} {k : Nat} (F : Fun K "is_point" "is_point" sPoint f fd) (FC : Fun K "count_points" "count_points" sCount fC fdC) (bC : Binds K fdC ["p", "n"] []) (gC : mg "count_points" = some (.ref fC)) (T : Txt K mg aP tM tW tN) :
    FnOk P w K mg base CX0 (k + 2) f fd ["p", "n", "x"] spPoint := by
  have GC : FnOk P w K mg base CX0 (k + 1) fC fdC ["p", "n"] spCount := ok_count FC T
  refine F.ok scPoint (fun vs H Q E h => ?_) (fun cdv A outer s H vs Q E hr h => ?_)
  · obtain ⟨p, n, x, rfl, _⟩ := h
    rfl
  · obtain ⟨p, n, x, rfl, hp, hn, q⟩ := h
    refine ⟨_, pss_one (ps_ret (pe_chain op_le op_lt pe_int (pv 2) (pe_call GC hr (by rfl) gC FC.kp bC .nil pass0 (pa_cons (pv 0) (pa_cons (pv 1) pa_nil))))), ?_⟩
    refine ⟨iv x, rfl, 0, x, rfl, rfl, _, rfl, ite2 (fun e1 => ?_) (fun e1 => ?_)⟩
    · refine ⟨iv p, rfl, iv n, rfl, p, n, rfl, hp, hn, x, (p ^ n : Nat), rfl, rfl, ?_⟩
      show Q (.bl (decide ((x : Int) < ((p ^ n : Nat) : Int)))) H
      rw [show decide ((x : Int) < ((p ^ n : Nat) : Int)) = decide (x < p ^ n) from decide_eq_decide.mpr (by omega)]
      exact q
    · exact absurd (decide_eq_true (by omega)) e1

theorem scNums : FnScope ["p", "n", "point", "numbers", "rest", "place"] ["p", "n", "point"] (defScope sNums) := ⟨rfl, rfl, rfl, by decide +kernel, rfl, by decide +kernel, by decide +kernel⟩
theorem ok_nums {f : Addr} {fd : FuncData} {k : Nat} (F : Fun K "numbers_of_point" "numbers_of_point" sNums f fd) (T : Txt K mg aP tM tW tN) : FnOk P w K mg base CX0 (k + 1) f fd ["p", "n", "point"] spNums := by
  refine F.ok scNums (fun vs H Q E h => ?_) (fun cdv A outer s H vs Q E hr h => ?_)
  · obtain ⟨p, n, x, rfl, _⟩ := h
    rfl
  · obtain ⟨p, n, x, rfl, h0, hp, hn, q⟩ := h
    refine ⟨_, pss_cons (ps_set (i := 3) scNums.nd rfl (.inl rfl) (pe_lst pa_nil))
      (pss_cons (ps_set (i := 4) scNums.nd rfl (.inl rfl) (pv 2))
      (pss_cons (ps_for PassesOwn.never rfl (pi_range1 (by rfl) T.range (pa_cons (pv 1) pa_nil)) (pg_name (i := 5) scNums.nd rfl (.inl rfl))
        (pss_cons (ps_expr (pe_bm PySem.F.plainAttrs_list PySem.F.slot_list_append PySem.F.type_list_append mt_append (pv 3) (pa_cons (pe_op op_mod (pv 4) (pv 0)) pa_nil)))
        (pss_one (ps_set (i := 4) scNums.nd rfl (.inl rfl) (pe_op op_fdiv (pv 4) (pv 0))))))
      (pss_one (ps_ret (pv 3))))), ?_⟩
    refine ⟨Nat.zero_le _, fun l nl => ?_⟩
    refine ⟨iv x, rfl, iv n, rfl, (n : Int), rfl, by omega, by omega, for_range (n := (n : Int).toNat) (fun i σ H' => ∃ y, σ = [some (iv p), some (iv n), some (iv x), some (.ref l), some (iv (x / p ^ i)), y] ∧ Same H H' ∧ H' l = some (.lst (ivs (Kzt1.coords p i x))))
      ⟨none, ?_, same_upd nl, upd_same⟩ ?_ ?_⟩
    · rw [Nat.pow_zero, Nat.div_one]
      rfl
    · rintro i σ H' hi ⟨y, rfl, sm, hl⟩
      refine ⟨.ref l, rfl, .inl ⟨rfl, _, SqL.of hl⟩, iv (x / p ^ i), rfl, iv p, rfl, _, _, rfl, rfl, by omega, l, _, _, rfl, rfl, hl, ?_, ?_⟩
      · rw [ivs_length, coords_length]
        exact sz (by omega)
      · refine ⟨iv (x / p ^ i), rfl, iv p, rfl, _, _, rfl, rfl, ⟨by omega, by omega⟩, some (.int (0 + (i : Int))), ?_, same_new sm nl, ?_⟩
        · show [some (iv p), some (iv n), some (iv x), some (.ref l), some (V.int (((x / p ^ i : Nat) : Int) / (p : Int))), _] = _
          rw [show ((x / p ^ i : Nat) : Int) / (p : Int) = ((x / p ^ (i + 1) : Nat) : Int) by rw [Nat.pow_succ, ← Nat.div_div_eq_div_mul]; exact (Int.natCast_ediv _ _).symm]
        · rw [upd_same, coords_succ, ivs_append]
          rfl
    · rintro σ H' ⟨y, rfl, sm, hl⟩
      rw [Int.toNat_natCast] at hl
      exact ⟨_, rfl, q H' l sm nl hl⟩

theorem scDir : FnScope ["p", "n", "v", "number"] ["p", "n", "v"] (defScope sDir) := ⟨rfl, rfl, rfl, by decide +kernel, rfl, by decide +kernel, by decide +kernel⟩
theorem ok_dir {f fC fP fN : Addr} {fd fdC fdP fdN : FuncData} {k : Nat} (F : Fun K "is_direction" "is_direction" sDir f fd)
    (FC : Fun K "count_points" "count_points" sCount fC fdC) (bC : Binds K fdC ["p", "n"] []) (gC : mg "count_points" = some (.ref fC))
    (FP : Fun K "is_point" "is_point" sPoint fP fdP) (bP : Binds K fdP ["p", "n", "x"] []) (gP : mg "is_point" = some (.ref fP))
    (FN : Fun K "numbers_of_point" "numbers_of_point" sNums fN fdN) (bN : Binds K fdN ["p", "n", "point"] []) (gN : mg "numbers_of_point" = some (.ref fN))
    (T : Txt K mg aP tM tW tN) : FnOk P w K mg base CX0 (k + 3) f fd ["p", "n", "v"] spDir := by
  have GP : FnOk P w K mg base CX0 (k + 2) fP fdP ["p", "n", "x"] spPoint := ok_point FP FC bC gC T
  have GN : FnOk P w K mg base CX0 (k + 2) fN fdN ["p", "n", "point"] spNums := ok_nums FN T
  refine F.ok scDir (fun vs H Q E h => ?_) (fun cdv A outer s H vs Q E hr h => ?_)
  · obtain ⟨p, n, v, rfl, _⟩ := h
    rfl
  · obtain ⟨p, n, v, rfl, h0, hp, hn, q⟩ := h
    refine ⟨_, pss_cons (ps_if (pt_not (pt_val (pe_call GP hr (by rfl) gP FP.kp bP .nil pass0 (pa_cons (pv 0) (pa_cons (pv 1) (pa_cons (pv 2) pa_nil)))))) (pss_one (ps_ret pe_bl)) pss_nil)
      (pss_cons (ps_for PassesOwn.never rfl (pi_list (pe_call GN hr (by rfl) gN FN.kp bN .nil pass0 (pa_cons (pv 0) (pa_cons (pv 1) (pa_cons (pv 2) pa_nil))))) (pg_name (i := 3) scDir.nd rfl (.inl rfl))
        (pss_one (ps_if (pt_cmpR op_ne (pv 3) pe_int (nomark _)) (pss_one (ps_ret (pe_cmpR op_eq (pv 3) pe_int (nomark _)))) pss_nil)))
      (pss_one (ps_ret pe_bl))), ?_⟩
    refine ⟨iv p, rfl, iv n, rfl, iv v, rfl, p, n, v, rfl, hp, hn, _, rfl, ?_⟩
    by_cases hv : v < p ^ n
    · rw [decide_eq_true hv]
      refine iteF ?_
      refine ⟨iv p, rfl, iv n, rfl, iv v, rfl, p, n, v, rfl, h0, hp, hn, fun H1 a sm na ha => ?_⟩
      have hd : isDir p n v = ((Kzt1.coords p n v).find? (fun x => x != 0) == some 1) := by
        unfold isDir
        rw [decide_eq_true hv, Bool.true_and]
      refine ⟨a, rfl, ⟨_, SqL.of ha⟩, for_list (K := K) (a := a) (xs := ivs (Kzt1.coords p n v)) (fun i σ H' => ∃ y, σ = [some (iv p), some (iv n), some (iv v), y] ∧ H' = H1 ∧ ((Kzt1.coords p n v).take i).find? (fun x => x != 0) = none)
        ⟨none, rfl, rfl, rfl⟩ ?_ ?_ ?_⟩
      · rintro i σ H' _ ⟨_, _, rfl, _⟩
        exact SqL.of ha
      · rintro i x σ H' hi ⟨y, rfl, rfl, hf⟩
        obtain ⟨c, hc, rfl⟩ := ivs_at hi
        refine ⟨iv c, rfl, rfl, _, rfl, ?_⟩
        by_cases c0 : c = 0
        · subst c0
          refine iteF ?_
          exact ⟨some (iv 0), rfl, rfl, find_none_take hf hc rfl⟩
        · have hne : decide (iv c = iv 0) = false := by
            rw [decide_iv]
            exact decide_eq_false c0
          show if (!decide (iv c = iv 0)) = true then _ else _
          rw [hne]
          refine iteT ?_
          refine ⟨iv c, rfl, rfl, ?_⟩
          have e := find_some_take hf hc c0
          have e2 : isDir p n v = decide (iv c = iv 1) := by
            rw [hd, e, decide_iv]
            rw [Bool.eq_iff_iff]
            simp
          show Q (.bl (decide (iv c = iv 1))) _
          rw [← e2]
          exact q _ sm
      · rintro σ H' ⟨y, rfl, rfl, hf⟩
        rw [ivs_length, List.take_length] at hf
        have e2 : isDir p n v = false := by
          rw [hd, hf]
          rfl
        show Q (.bl false) _
        rw [← e2]
        exact q _ sm
    · rw [decide_eq_false hv]
      refine iteT ?_
      have e2 : isDir p n v = false := by
        unfold isDir
        rw [decide_eq_false hv, Bool.false_and]
      show Q (.bl false) _
      rw [← e2]
      exact q _ (Same.refl _)
end
end KM
namespace KM
open PySem PySem.Spec PyProof.Rows L2
def spAll : Sp := fun vs H Q _ => ∃ p n : Nat, vs = [iv p, iv n] ∧ 0 < p ∧ p ≤ 7 ∧ n ≤ 3 ∧ p ^ n ≤ 343 ∧ ∀ (H' : Hp) (a : Addr), Same H H' → H a = none → H' a = some (.lst (ivs (Kzt2.directions p n))) → Q (.ref a) H'
section
variable {P : Program} {w : World} {K : PySem.W.Frag} {mg : Str → Option Value} {base : Heap} {aP : Addr} {tM tW tN : Nat}
theorem scAll : FnScope ["p", "n", "point"] ["p", "n"] (defScope sAll) := ⟨rfl, rfl, rfl, by decide +kernel, rfl, by decide +kernel, by decide +kernel⟩
theorem filter_succ (f : Nat → Bool) (i : Nat) : (List.range (i + 1)).filter f = (List.range i).filter f ++ (if f i then [i] else []) := by
  rw [List.range_succ, List.filter_append]
  cases h : f i <;> simp [h]
theorem ok_all {f fC fP fN fD : Addr} {fd fdC fdP fdN fdD : FuncData} {k : Nat} (F : Fun K "all_directions" "all_directions" sAll f fd)
    (FC : Fun K "count_points" "count_points" sCount fC fdC) (bC : Binds K fdC ["p", "n"] []) (gC : mg "count_points" = some (.ref fC))
    (FP : Fun K "is_point" "is_point" sPoint fP fdP) (bP : Binds K fdP ["p", "n", "x"] []) (gP : mg "is_point" = some (.ref fP))
    (FN : Fun K "numbers_of_point" "numbers_of_point" sNums fN fdN) (bN : Binds K fdN ["p", "n", "point"] []) (gN : mg "numbers_of_point" = some (.ref fN))
    (FD : Fun K "is_direction" "is_direction" sDir fD fdD) (bD : Binds K fdD ["p", "n", "v"] []) (gD : mg "is_direction" = some (.ref fD))
    (T : Txt K mg aP tM tW tN) : FnOk P w K mg base CX0 (k + 4) f fd ["p", "n"] spAll := by
  have GC : FnOk P w K mg base CX0 (k + 3) fC fdC ["p", "n"] spCount := ok_count FC T
  have GD : FnOk P w K mg base CX0 (k + 3) fD fdD ["p", "n", "v"] spDir := ok_dir FD FC bC gC FP bP gP FN bN gN T
  refine F.ok scAll (fun vs H Q E h => ?_) (fun cdv A outer s H vs Q E hr h => ?_)
  · obtain ⟨p, n, rfl, _⟩ := h
    rfl
  · obtain ⟨p, n, rfl, h0, hp, hn, hpow, q⟩ := h
    refine ⟨_, pss_one (ps_ret (pe_lc (own := [("point", 2)]) (g := gName 2) (tt := tTest (tCall spDir [] E0 (tCons (tVar 0) (tCons (tVar 1) (tCons (tVar 2) tNil))))) (te := tVar 2) (by rfl) scAll.nd
        (pi_range1 (by rfl) T.range (pa_cons (pe_call GC hr (by rfl) gC FC.kp bC .nil pass0 (pa_cons (pv 0) (pa_cons (pv 1) pa_nil))) pa_nil))
        (blkOk_by (own := [("point", 2)]) (N := ["p", "n", "point"]) (sc := defScope sAll) (by decide +kernel))
        (fun _ _ _ _ _ => pg_name (i := 2) scAll.nd rfl (.inl rfl))
        (fun _ _ _ _ _ => pts_one (pt_val (pe_call GD hr (by rfl) gD FD.kp bD .nil pass0 (pa_cons (pv 0) (pa_cons (pv 1) (pa_cons (pv 2) pa_nil))))))
        (fun _ _ _ _ _ => pv 2))), ?_⟩
    refine ⟨iv p, rfl, iv n, rfl, p, n, rfl, hp, hn, ((p ^ n : Nat) : Int), rfl, by omega, by omega, fun D nD => lc_range (lo := 0) (n := (((p ^ n : Nat) : Int)).toNat) (fun j H3 => Same H H3 ∧ H3 D = some (.lst (ivs ((List.range j).filter (isDir p n))))) ⟨same_upd nD, upd_same⟩ ?_ ?_⟩
    · rintro j H3 hj ⟨sm3, hD⟩
      rw [Int.toNat_natCast] at hj
      have ej : V.int (0 + (j : Int)) = iv j := congrArg V.int (Int.zero_add _)
      rw [ej]
      refine ⟨rfl, ?_⟩
      refine ⟨iv p, rfl, iv n, rfl, iv j, rfl, p, n, j, rfl, h0, hp, hn, fun H4 sm4 => ⟨_, rfl, ?_⟩⟩
      have hD4 := sm4 _ _ hD
      cases hd : isDir p n j with
      | true =>
        refine iteT ?_
        refine ⟨iv j, rfl, _, hD4, ?_, same_new (sm3.trans sm4) nD, ?_⟩
        · rw [ivs_length]
          refine sz (Nat.le_trans (List.length_filter_le _ _) ?_)
          rw [List.length_range]
          omega
        · rw [upd_same, filter_succ, hd, ivs_append]
          rfl
      | false =>
        refine iteF ?_
        refine ⟨sm3.trans sm4, ?_⟩
        rw [filter_succ, hd]
        show _ = some (HO.lst (ivs (_ ++ [])))
        rw [List.append_nil]
        exact hD4
    · rintro H3 ⟨sm3, hD⟩
      rw [Int.toNat_natCast, ← directions_eq] at hD
      exact q H3 D sm3 nD hD
end
end KM
namespace KM
open PySem PySem.Spec PyProof.Rows L2
def spTop : Sp := fun vs H Q _ => ∃ p n : Int, vs = [.int p, .int n] ∧ 0 ≤ p ∧ 0 ≤ n ∧ ∀ (H' : Hp) (a : Addr), H' a = some (.lst ((PyKzt2.directions p n).map V.int)) → Q (.ref a) H'
theorem dirs_no (p n : Nat) (h : Kzt1.okField p n = false) : PyKzt2.directions p n = [-22] := by
  show ((Kzt2.answer (.directions p n)).value :: (Kzt2.answer (.directions p n)).nums) = _
  unfold Kzt2.answer
  dsimp only
  rw [if_pos h]
  rfl
theorem dirs_in (p n : Nat) (h : Kzt1.okField p n = true) : PyKzt2.directions p n = ((Kzt2.directions p n).length : Int) :: (Kzt2.directions p n).map fun (y : Nat) => (y : Int) := by
  show ((Kzt2.answer (.directions p n)).value :: (Kzt2.answer (.directions p n)).nums) = _
  unfold Kzt2.answer
  dsimp only
  rw [if_neg (by rw [h]; exact Bool.noConfusion)]
  show (((((Kzt2.directions p n).map fun (y : Nat) => (y : Int)).length : Nat) : Int) :: _) = _
  rw [List.length_map]
  rfl
theorem dirs_len (p n : Nat) : (Kzt2.directions p n).length ≤ p ^ n := by
  rw [directions_eq]
  exact Nat.le_trans (List.length_filter_le _ _) (Nat.le_of_eq List.length_range)
section
variable {P : Program} {w : World} {K : PySem.W.Frag} {mg : Str → Option Value} {base : Heap} {aP : Addr} {tM tW tN : Nat}
theorem scTop : FnScope ["p", "n", "found"] ["p", "n"] (defScope sTop) := ⟨rfl, rfl, rfl, by decide +kernel, rfl, by decide +kernel, by decide +kernel⟩
theorem ok_top {f fS fC fP fN fD fL : Addr} {fd fdS fdC fdP fdN fdD fdL : FuncData} (F : Fun K "directions" "directions" sTop f fd)
    (FS : Fun K "is_space" "is_space" sSpace fS fdS) (bS : Binds K fdS ["p", "n"] []) (gS : mg "is_space" = some (.ref fS))
    (FC : Fun K "count_points" "count_points" sCount fC fdC) (bC : Binds K fdC ["p", "n"] []) (gC : mg "count_points" = some (.ref fC))
    (FP : Fun K "is_point" "is_point" sPoint fP fdP) (bP : Binds K fdP ["p", "n", "x"] []) (gP : mg "is_point" = some (.ref fP))
    (FN : Fun K "numbers_of_point" "numbers_of_point" sNums fN fdN) (bN : Binds K fdN ["p", "n", "point"] []) (gN : mg "numbers_of_point" = some (.ref fN))
    (FD : Fun K "is_direction" "is_direction" sDir fD fdD) (bD : Binds K fdD ["p", "n", "v"] []) (gD : mg "is_direction" = some (.ref fD))
    (FL : Fun K "all_directions" "all_directions" sAll fL fdL) (bL : Binds K fdL ["p", "n"] []) (gL : mg "all_directions" = some (.ref fL))
    (ml : mg "len" = none) (T : Txt K mg aP tM tW tN) : FnOk P w K mg base CX0 5 f fd ["p", "n"] spTop := by
  have GS : FnOk P w K mg base CX0 4 fS fdS ["p", "n"] spSpace := ok_space FS T
  have GL : FnOk P w K mg base CX0 4 fL fdL ["p", "n"] spAll := ok_all FL FC bC gC FP bP gP FN bN gN FD bD gD T
  refine F.ok scTop (fun vs H Q E h => ?_) (fun cdv A outer s H vs Q E hr h => ?_)
  · obtain ⟨p, n, rfl, _⟩ := h
    rfl
  · obtain ⟨p, n, rfl, hp0, hn0, q⟩ := h
    obtain ⟨p, rfl⟩ := Int.eq_ofNat_of_zero_le hp0
    obtain ⟨n, rfl⟩ := Int.eq_ofNat_of_zero_le hn0
    refine ⟨_, pss_cons (ps_if (pt_not (pt_val (pe_call GS hr (by rfl) gS FS.kp bS .nil pass0 (pa_cons (pv 0) (pa_cons (pv 1) pa_nil))))) (pss_one (ps_ret (pe_lst (pa_cons (pe_glob (v := .int (-22)) (by rfl) T.gW ⟨_, rfl⟩) pa_nil)))) pss_nil)
      (pss_cons (ps_set (i := 2) scTop.nd rfl (.inl rfl) (pe_call GL hr (by rfl) gL FL.kp bL .nil pass0 (pa_cons (pv 0) (pa_cons (pv 1) pa_nil))))
      (pss_one (ps_ret (pe_op op_cat (pe_lst (pa_cons (pe_callB call_len_seq (by rfl) ml PySem.boot_len (pa_cons (pv 2) pa_nil)) pa_nil)) (pv 2))))), ?_⟩
    refine ⟨iv p, rfl, iv n, rfl, p, n, rfl, _, rfl, ?_⟩
    cases hok : Kzt1.okField p n with
    | false =>
      refine iteT ?_
      refine ⟨by show 1 ≤ sizeLine; decide, fun l nl => ?_⟩
      refine q _ l ?_
      rw [dirs_no p n hok, upd_same]
      rfl
    | true =>
      refine iteF ?_
      obtain ⟨hpc, hn1, hn3⟩ := ok_cases hok
      have h0 : 0 < p := by omega
      have hp : p ≤ 7 := by omega
      have hw := ok_pow hok
      have hlen := dirs_len p n
      refine ⟨iv p, rfl, iv n, rfl, p, n, rfl, h0, hp, hn3, hw, fun H1 a sm1 na ha => ?_⟩
      refine ⟨.ref a, rfl, a, _, rfl, .inl (SqL.of ha), by show 1 ≤ sizeLine; decide, fun l nl => ?_⟩
      refine ⟨.ref a, rfl, l, a, _, _, rfl, rfl, upd_same, (by rw [upd_ne (ne_free ha nl).symm]; exact ha), ?_, fun r nr => ?_⟩
      · rw [ivs_length]
        exact Nat.le_of_lt (sz (by show 1 + (Kzt2.directions p n).length ≤ 1000; omega))
      · refine q _ r ?_
        rw [dirs_in p n hok, upd_same, List.map_cons, List.map_map, ivs_length]
        rfl
end
end KM
namespace KM
open PySem PySem.Spec PyProof.Rows L2
theorem primes_at {K : PySem.W.Frag} {aP : Addr} {od : Option Addr} {t2 t3 t5 t7 n : Nat} {sl : Array (Option Value)}
    (l : K.lookup aP = some ⟨.type "tuple", od, .seq #[.int 2 t2, .int 3 t3, .int 5 t5, .int 7 t7] n, sl⟩) (H : Hp) : SqT K H aP (ivs [2, 3, 5, 7]) :=
  .inr ⟨_, _, _, l, rfl, rfl, (by show 4 ≤ sizeLine; decide), .cons ⟨_, rfl⟩ (.cons ⟨_, rfl⟩ (.cons ⟨_, rfl⟩ (.cons ⟨_, rfl⟩ .nil)))⟩
theorem all_mk {P : Program} {w : World} {K : PySem.W.Frag} {h : Heap} {mg : Str → Option Value} {fa aP f1 f2 f3 f4 f5 f6 f7 : Addr} {t2 t3 t5 t7 nP tM tW : Nat} (X : K.In h) (G : h.Ns mainGlobals mg) (hfa : mg "directions" = some (.ref fa))
    {odP od1 an1 od2 an2 od3 an3 od4 an4 od5 an5 od6 an6 od7 an7 : Option Addr} {slP sl1 sl2 sl3 sl4 sl5 sl6 sl7 : Array (Option Value)}
    {oc1 kV1 dc1 pm1 cd1 ct1 oc2 kV2 dc2 pm2 cd2 ct2 oc3 kV3 dc3 pm3 cd3 ct3 oc4 kV4 dc4 pm4 cd4 ct4 oc5 kV5 dc5 pm5 cd5 ct5 oc6 kV6 dc6 pm6 cd6 ct6 oc7 kV7 dc7 pm7 cd7 ct7 : Value}
    (aPr : PySem.W.nsIn K mainGlobals "PRIMES" = some (some (.ref aP))) (lPr : K.lookup aP = some ⟨.type "tuple", odP, .seq #[.int 2 t2, .int 3 t3, .int 5 t5, .int 7 t7] nP, slP⟩)
    (kM : PySem.W.nsIn K mainGlobals "MOST_NUMBERS" = some (some (.int 3 tM)))
    (kW : PySem.W.nsIn K mainGlobals "WRONG_FORM" = some (some (.int (-22) tW)))
    (z1 : PySem.W.nsIn K mainGlobals "range" = some none)
    (z2 : PySem.W.nsIn K mainGlobals "len" = some none)
    (a1 : PySem.W.nsIn K mainGlobals "directions" = some (some (.ref f1))) (l1 : K.lookup f1 = some ⟨oc1, od1, .func (PySem.W.fnOf "directions" "directions" (defArgs sTop) (defBody sTop) (defScope sTop) .none kV1 dc1 pm1 an1 cd1 ct1), sl1⟩) (c1 : PySem.W.codeIn K cd1 "directions" = true) (k1 : PySem.W.keepIn K (.ref f1) = true)
    (a2 : PySem.W.nsIn K mainGlobals "is_space" = some (some (.ref f2))) (l2 : K.lookup f2 = some ⟨oc2, od2, .func (PySem.W.fnOf "is_space" "is_space" (defArgs sSpace) (defBody sSpace) (defScope sSpace) .none kV2 dc2 pm2 an2 cd2 ct2), sl2⟩) (c2 : PySem.W.codeIn K cd2 "is_space" = true) (k2 : PySem.W.keepIn K (.ref f2) = true)
    (a3 : PySem.W.nsIn K mainGlobals "count_points" = some (some (.ref f3))) (l3 : K.lookup f3 = some ⟨oc3, od3, .func (PySem.W.fnOf "count_points" "count_points" (defArgs sCount) (defBody sCount) (defScope sCount) .none kV3 dc3 pm3 an3 cd3 ct3), sl3⟩) (c3 : PySem.W.codeIn K cd3 "count_points" = true) (k3 : PySem.W.keepIn K (.ref f3) = true)
    (a4 : PySem.W.nsIn K mainGlobals "is_point" = some (some (.ref f4))) (l4 : K.lookup f4 = some ⟨oc4, od4, .func (PySem.W.fnOf "is_point" "is_point" (defArgs sPoint) (defBody sPoint) (defScope sPoint) .none kV4 dc4 pm4 an4 cd4 ct4), sl4⟩) (c4 : PySem.W.codeIn K cd4 "is_point" = true) (k4 : PySem.W.keepIn K (.ref f4) = true)
    (a5 : PySem.W.nsIn K mainGlobals "numbers_of_point" = some (some (.ref f5))) (l5 : K.lookup f5 = some ⟨oc5, od5, .func (PySem.W.fnOf "numbers_of_point" "numbers_of_point" (defArgs sNums) (defBody sNums) (defScope sNums) .none kV5 dc5 pm5 an5 cd5 ct5), sl5⟩) (c5 : PySem.W.codeIn K cd5 "numbers_of_point" = true) (k5 : PySem.W.keepIn K (.ref f5) = true)
    (a6 : PySem.W.nsIn K mainGlobals "is_direction" = some (some (.ref f6))) (l6 : K.lookup f6 = some ⟨oc6, od6, .func (PySem.W.fnOf "is_direction" "is_direction" (defArgs sDir) (defBody sDir) (defScope sDir) .none kV6 dc6 pm6 an6 cd6 ct6), sl6⟩) (c6 : PySem.W.codeIn K cd6 "is_direction" = true) (k6 : PySem.W.keepIn K (.ref f6) = true)
    (a7 : PySem.W.nsIn K mainGlobals "all_directions" = some (some (.ref f7))) (l7 : K.lookup f7 = some ⟨oc7, od7, .func (PySem.W.fnOf "all_directions" "all_directions" (defArgs sAll) (defBody sAll) (defScope sAll) .none kV7 dc7 pm7 an7 cd7 ct7), sl7⟩) (c7 : PySem.W.codeIn K cd7 "all_directions" = true) (k7 : PySem.W.keepIn K (.ref f7) = true) :
    ∃ fd : FuncData, (∀ (s : Shared) (us : List Value), us.length = (["p", "n"] : List Str).length → BindsTo s fd ⟨us, []⟩ ((["p", "n"] : List Str).zip us)) ∧ ∀ base : Heap, K.In base → base.Ns mainGlobals mg → FnOk P w K mg base CX0 5 fa fd ["p", "n"] spTop := by
  have e := hfa.symm.trans (PySem.W.mg_of X G a1)
  cases e
  have T : Txt K mg aP tM tW 0 := ⟨PySem.W.mg_of X G aPr, primes_at lPr, PySem.W.mg_of X G kM, PySem.W.mg_of X G kW, PySem.W.mg_none_of X G z1⟩
  have F1 := fun_mk (st := sTop) l1 c1 k1
  have F2 := fun_mk (st := sSpace) l2 c2 k2
  have F3 := fun_mk (st := sCount) l3 c3 k3
  have F4 := fun_mk (st := sPoint) l4 c4 k4
  have F5 := fun_mk (st := sNums) l5 c5 k5
  have F6 := fun_mk (st := sDir) l6 c6 k6
  have F7 := fun_mk (st := sAll) l7 c7 k7
  have b2 := F2.binds (ps := ["p", "n"]) fun _ _ _ _ _ _ us hl => match us, hl with | [_, _], _ => rfl
  have b3 := F3.binds (ps := ["p", "n"]) fun _ _ _ _ _ _ us hl => match us, hl with | [_, _], _ => rfl
  have b4 := F4.binds (ps := ["p", "n", "x"]) fun _ _ _ _ _ _ us hl => match us, hl with | [_, _, _], _ => rfl
  have b5 := F5.binds (ps := ["p", "n", "point"]) fun _ _ _ _ _ _ us hl => match us, hl with | [_, _, _], _ => rfl
  have b6 := F6.binds (ps := ["p", "n", "v"]) fun _ _ _ _ _ _ us hl => match us, hl with | [_, _, _], _ => rfl
  have b7 := F7.binds (ps := ["p", "n"]) fun _ _ _ _ _ _ us hl => match us, hl with | [_, _], _ => rfl
  exact ⟨PySem.W.fnOf "directions" "directions" (defArgs sTop) (defBody sTop) (defScope sTop) .none kV1 dc1 pm1 an1 cd1 ct1, fun s us hu => match us, hu with | [_, _], _ => .of_eq rfl, fun base _ _ =>
    ok_top F1 F2 b2 (PySem.W.mg_of X G a2) F3 b3 (PySem.W.mg_of X G a3) F4 b4 (PySem.W.mg_of X G a4) F5 b5 (PySem.W.mg_of X G a5) F6 b6 (PySem.W.mg_of X G a6) F7 b7 (PySem.W.mg_of X G a7) (PySem.W.mg_none_of X G z2) T⟩
end KM
open PySem PySem.W PyProof.Rows
set_option maxRecDepth 100000 in
set_option maxHeartbeats 8000000 in
theorem PySem.Challenge.cw_everywaydesk_s01_directions_holds : PySem.Challenge.rw_everywaydesk_s01_directions.Holds := by
  w_on; k_headS; (case hw => exact ⟨[.int 2, .int 1], by decide +kernel, by decide +kernel⟩)
  k_fillS
  refine L2.walk_specK (r := PySem.Challenge.rw_everywaydesk_s01_directions) (k := 5) (CX := L2.CX0) (ps := ["p", "n"]) (sp := fun K => KM.spTop) (by decide +kernel) rfl rfl ⟨rfl, by decide, by decide⟩ (fun w h Y => PySem.W.kIn_of Y) ?F ?S (fun _ _ _ _ z => z)
  case F =>
    intro w mg fa h Y KX G hmg
    refine' KM.all_mk KX G hmg ?aPr ?lPr ?kM ?kW ?z1 ?z2 ?a1 ?l1 ?c1 ?k1 ?a2 ?l2 ?c2 ?k2 ?a3 ?l3 ?c3 ?k3 ?a4 ?l4 ?c4 ?k4 ?a5 ?l5 ?c5 ?k5 ?a6 ?l6 ?c6 ?k6 ?a7 ?l7 ?c7 ?k7
    (case aPr => k_is)
    (case lPr => k_is)
    (case kM => k_is)
    (case kW => k_is)
    (case z1 => k_is)
    (case z2 => k_is)
    (case a1 => k_is)
    (case l1 => k_is)
    (case c1 => k_is)
    (case k1 => k_is)
    (case a2 => k_is)
    (case l2 => k_is)
    (case c2 => k_is)
    (case k2 => k_is)
    (case a3 => k_is)
    (case l3 => k_is)
    (case c3 => k_is)
    (case k3 => k_is)
    (case a4 => k_is)
    (case l4 => k_is)
    (case c4 => k_is)
    (case k4 => k_is)
    (case a5 => k_is)
    (case l5 => k_is)
    (case c5 => k_is)
    (case k5 => k_is)
    (case a6 => k_is)
    (case l6 => k_is)
    (case c6 => k_is)
    (case k6 => k_is)
    (case a7 => k_is)
    (case l7 => k_is)
    (case c7 => k_is)
    (case k7 => k_is)
  case S =>
    intro K H xs a hO hwi hask hx
    obtain ⟨p, n, u⟩ := a
    cases hx with
    | cons h1 r1 =>
      cases r1 with
      | cons h2 r2 =>
        cases r2
        cases h1
        cases h2
        have q : (Codec.inInt 0 4294967295 p && (Codec.inInt 0 4294967295 n && true)) = true := hwi
        rw [Bool.and_eq_true, Bool.and_eq_true] at q
        have lo : ∀ z : Int, Codec.inInt 0 4294967295 z = true → 0 ≤ z := fun z hz => by
          unfold Codec.inInt at hz
          simp only [Bool.and_eq_true, decide_eq_true_eq] at hz
          exact hz.1
        exact ⟨p, n, rfl, lo _ q.1, lo _ q.2.1, fun H' r hr => .lst (L2.SqL.of hr) (L2.dw_ints _)⟩
#print axioms PySem.Challenge.cw_everywaydesk_s01_directions_holds
