/- The field of 2^128 elements, in bits: sums, products, inverses; no two elements but 0 have the product 0. -/
import Derived.Test.YtjhkicfndbceoaaMath
namespace Go.Proofs.Ytjhkicfndbceoaa

abbrev Q := BitVec 128

/-- x times t. -/
def eT (x : Q) : Q := (x >>> 1) ^^^ (if x.getLsbD 0 then 0xe1000000000000000000000000000000#128 else 0#128)
theorem eT_xor (x y : Q) : eT (x ^^^ y) = eT x ^^^ eT y := by
  unfold eT
  rw [BitVec.ushiftRight_xor_distrib, BitVec.getLsbD_xor]
  obtain ⟨r, hr⟩ : ∃ r, r = 0xe1000000000000000000000000000000#128 := ⟨_, rfl⟩
  rw [← hr]
  cases x.getLsbD 0 <;> cases y.getLsbD 0 <;> simp
  · ac_rfl
  · ac_rfl
  · have : x >>> 1 ^^^ r ^^^ (y >>> 1 ^^^ r) = (x >>> 1 ^^^ y >>> 1) ^^^ (r ^^^ r) := by ac_rfl
    rw [this, BitVec.xor_self, BitVec.xor_zero]
theorem eT_zero : eT 0#128 = 0#128 := by decide
/-- x times t^i. -/
def eTn : Nat → Q → Q
  | 0, x => x
  | i + 1, x => eT (eTn i x)
theorem eTn_xor (i : Nat) (x y : Q) : eTn i (x ^^^ y) = eTn i x ^^^ eTn i y := by
  induction i with
  | zero => rfl
  | succ i ih => simp only [eTn]; rw [ih, eT_xor]
theorem eTn_zero (i : Nat) : eTn i 0#128 = 0#128 := by
  induction i with
  | zero => rfl
  | succ i ih => simp only [eTn]; rw [ih, eT_zero]
theorem eTn_eT (i : Nat) (x : Q) : eTn i (eT x) = eT (eTn i x) := by
  induction i with
  | zero => rfl
  | succ i ih => simp only [eTn]; rw [ih]
/-- The coefficient of t^i. -/
def co (x : Q) (i : Nat) : Bool := x.getLsbD (127 - i)
theorem co_xor (x y : Q) (i : Nat) : co (x ^^^ y) i = (co x i ^^ co y i) := by unfold co; rw [BitVec.getLsbD_xor]
/-- x times the first k coefficients of y. -/
def gTo : Nat → Q → Q → Q
  | 0, _, _ => 0#128
  | k + 1, x, y => gTo k x y ^^^ (if co y k then eTn k x else 0#128)
/-- The product. -/
def gm (x y : Q) : Q := gTo 128 x y
theorem gTo_left (k : Nat) (x y z : Q) : gTo k (x ^^^ y) z = gTo k x z ^^^ gTo k y z := by
  induction k with
  | zero => simp [gTo]
  | succ k ih =>
    simp only [gTo]
    rw [ih, eTn_xor]
    cases co z k <;> simp <;> ac_rfl
theorem gTo_right (k : Nat) (z x y : Q) : gTo k z (x ^^^ y) = gTo k z x ^^^ gTo k z y := by
  induction k with
  | zero => simp [gTo]
  | succ k ih =>
    simp only [gTo]
    rw [ih, co_xor]
    cases co x k <;> cases co y k <;> simp
    · ac_rfl
    · ac_rfl
    · have : gTo k z x ^^^ eTn k z ^^^ (gTo k z y ^^^ eTn k z) = (gTo k z x ^^^ gTo k z y) ^^^ (eTn k z ^^^ eTn k z) := by ac_rfl
      rw [this, BitVec.xor_self, BitVec.xor_zero]
theorem gTo_eT (k : Nat) (x y : Q) : gTo k (eT x) y = eT (gTo k x y) := by
  induction k with
  | zero => simp [gTo, eT_zero]
  | succ k ih =>
    simp only [gTo]
    rw [ih, eT_xor, eTn_eT]
    cases co y k <;> simp [eT_zero]
theorem gm_left (x y z : Q) : gm (x ^^^ y) z = gm x z ^^^ gm y z := gTo_left 128 x y z
theorem gm_right (z x y : Q) : gm z (x ^^^ y) = gm z x ^^^ gm z y := gTo_right 128 z x y
theorem gm_eT (x y : Q) : gm (eT x) y = eT (gm x y) := gTo_eT 128 x y
theorem gm_zero_right (x : Q) : gm x 0#128 = 0#128 := by
  have h := gm_right x 0#128 0#128
  rw [BitVec.xor_self, BitVec.xor_self] at h
  exact h
theorem gm_zero_left (x : Q) : gm 0#128 x = 0#128 := by
  have h := gm_left 0#128 0#128 x
  rw [BitVec.xor_self, BitVec.xor_self] at h
  exact h

/-- The element 1. -/
def oneQ : Q := 0x80000000000000000000000000000000#128
theorem eTn_e1 (i : Nat) (h : i < 128) : eTn i oneQ = 1#128 <<< (127 - i) := by
  have : ∀ i, i < 128 → eTn i oneQ = 1#128 <<< (127 - i) := by decide +kernel
  exact this i h
theorem gTo_e1 (y : Q) : ∀ k, k ≤ 128 → ∀ j, j < 128 → (gTo k oneQ y).getLsbD j = (decide (127 - j < k) && y.getLsbD j)
  | 0, _, j, hj => by simp [gTo]
  | k + 1, hk, j, hj => by
    simp only [gTo]
    rw [BitVec.getLsbD_xor, gTo_e1 y k (by omega) j hj]
    unfold co
    by_cases hjk : 127 - j = k
    · have e : 127 - k = j := by omega
      rw [e]
      cases hy : y.getLsbD j
      · simp
      · simp only [if_true]
        rw [eTn_e1 k (by omega), e]
        rw [BitVec.getLsbD_shiftLeft]
        simp [hj, hjk]
    · have hne : ((if y.getLsbD (127 - k) = true then eTn k oneQ else 0#128).getLsbD j) = false := by
        cases hy : y.getLsbD (127 - k)
        · simp
        · simp only [if_true]
          rw [eTn_e1 k (by omega), BitVec.getLsbD_shiftLeft]
          by_cases h2 : j < 127 - k
          · simp [h2]
          · have : ((1#128 : Q).getLsbD (j - (127 - k))) = false := by
              rw [BitVec.getLsbD_one]
              simp
              omega
            simp [this]
      rw [hne, Bool.xor_false]
      have : decide (127 - j < k + 1) = decide (127 - j < k) := by
        apply decide_eq_decide.2
        omega
      rw [this]
theorem gm_e1_left (y : Q) : gm oneQ y = y := by
  apply BitVec.eq_of_getLsbD_eq
  intro j hj
  show (gTo 128 oneQ y).getLsbD j = _
  rw [gTo_e1 y 128 (Nat.le_refl _) j hj]
  have : 127 - j < 128 := by omega
  simp [this]
/-- Two sums-keeping maps that agree at 1 and go with t are one. -/
theorem same_map (f g : Q → Q) (fa : ∀ x y, f (x ^^^ y) = f x ^^^ f y) (ga : ∀ x y, g (x ^^^ y) = g x ^^^ g y) (ft : ∀ i, i < 128 → f (eTn i oneQ) = g (eTn i oneQ)) (x : Q) : f x = g x := by
  have f0 : f 0#128 = 0#128 := by
    have h := fa 0#128 0#128
    rw [BitVec.xor_self, BitVec.xor_self] at h
    exact h
  have g0 : g 0#128 = 0#128 := by
    have h := ga 0#128 0#128
    rw [BitVec.xor_self, BitVec.xor_self] at h
    exact h
  have : ∀ k, k ≤ 128 → f (gTo k oneQ x) = g (gTo k oneQ x) := by
    intro k
    induction k with
    | zero => intro _; rw [gTo, f0, g0]
    | succ k ih =>
      intro hk
      rw [gTo, fa, ga, ih (by omega)]
      cases co x k
      · simp [f0, g0]
      · simp only [if_true]
        rw [ft k (by omega)]
  have h := this 128 (Nat.le_refl _)
  have e : gTo 128 oneQ x = x := gm_e1_left x
  rwa [e] at h
theorem map_Tn (f : Q → Q) (ft : ∀ x, f (eT x) = eT (f x)) (i : Nat) (x : Q) : f (eTn i x) = eTn i (f x) := by
  induction i with
  | zero => rfl
  | succ i ih => simp only [eTn]; rw [ft, ih]
theorem same_lin (f g : Q → Q) (fa : ∀ x y, f (x ^^^ y) = f x ^^^ f y) (ga : ∀ x y, g (x ^^^ y) = g x ^^^ g y) (ft : ∀ x, f (eT x) = eT (f x)) (gt : ∀ x, g (eT x) = eT (g x)) (h1 : f oneQ = g oneQ) (x : Q) : f x = g x :=
  same_map f g fa ga (fun i _ => by rw [map_Tn f ft, map_Tn g gt, h1]) x
theorem gm_eT_right (x y : Q) : gm x (eT y) = eT (gm x y) :=
  same_lin (fun x => gm x (eT y)) (fun x => eT (gm x y)) (fun a b => gm_left a b _) (fun a b => by show eT (gm (a ^^^ b) y) = _; rw [gm_left, eT_xor]) (fun a => gm_eT a _) (fun a => by show eT (gm (eT a) y) = _; rw [gm_eT])
    (by show gm oneQ (eT y) = eT (gm oneQ y); rw [gm_e1_left, gm_e1_left]) x
theorem gm_e1_right (y : Q) : gm y oneQ = y :=
  same_lin (fun y => gm y oneQ) (fun y => y) (fun a b => gm_left a b _) (fun _ _ => rfl) (fun a => gm_eT a _) (fun _ => rfl) (gm_e1_left oneQ) y
theorem gm_comm (x y : Q) : gm x y = gm y x :=
  same_lin (fun x => gm x y) (fun x => gm y x) (fun a b => gm_left a b _) (fun a b => gm_right _ a b) (fun a => gm_eT a _) (fun a => gm_eT_right _ a) (by show gm oneQ y = gm y oneQ; rw [gm_e1_left, gm_e1_right]) x
theorem gm_assoc (x y z : Q) : gm (gm x y) z = gm x (gm y z) :=
  same_lin (fun x => gm (gm x y) z) (fun x => gm x (gm y z)) (fun a b => by show gm (gm (a ^^^ b) y) z = _; rw [gm_left, gm_left]) (fun a b => gm_left a b _) (fun a => by show gm (gm (eT a) y) z = _; rw [gm_eT, gm_eT]) (fun a => gm_eT a _)
    (by show gm (gm oneQ y) z = gm oneQ (gm y z); rw [gm_e1_left, gm_e1_left]) x

/-- The product, as it is reckoned. -/
def gGo : Nat → Q → Q → Q → Q
  | 0, _, _, z => z
  | k + 1, x, y, z => gGo k (eT x) y (if co y (127 - k) then z ^^^ x else z)
theorem gGo_eq (x y : Q) : ∀ k, k ≤ 128 → gGo k (eTn (128 - k) x) y (gTo (128 - k) x y) = gm x y
  | 0, _ => rfl
  | k + 1, hk => by
    rw [gGo]
    have h := gGo_eq x y k (by omega)
    have e : 128 - k = (128 - (k + 1)) + 1 := by omega
    have e2 : 127 - k = 128 - (k + 1) := by omega
    rw [e] at h
    rw [e2]
    simp only [eTn, gTo] at h
    rw [← h]
    congr 1
    cases co y (128 - (k + 1)) <;> simp
theorem gm_go (x y : Q) : gm x y = gGo 128 x y 0#128 := (gGo_eq x y 128 (Nat.le_refl _)).symm

/-- The square. -/
def sq (x : Q) : Q := gm x x
theorem sq_xor (x y : Q) : sq (x ^^^ y) = sq x ^^^ sq y := by
  unfold sq
  rw [gm_left, gm_right, gm_right, gm_comm y x]
  have : gm x x ^^^ gm x y ^^^ (gm x y ^^^ gm y y) = (gm x x ^^^ gm y y) ^^^ (gm x y ^^^ gm x y) := by ac_rfl
  rw [this, BitVec.xor_self, BitVec.xor_zero]
theorem sq_gm (x y : Q) : sq (gm x y) = gm (sq x) (sq y) := by
  unfold sq
  rw [gm_assoc, gm_assoc]
  refine congrArg (gm x) ?_
  rw [← gm_assoc, gm_comm y x, gm_assoc]
def sqn : Nat → Q → Q
  | 0, x => x
  | n + 1, x => sqn n (sq x)
theorem sqn_succ (n : Nat) (x : Q) : sqn (n + 1) x = sq (sqn n x) := by
  induction n generalizing x with
  | zero => rfl
  | succ n ih => rw [sqn, ih]; rfl
theorem sqn_xor (n : Nat) (x y : Q) : sqn n (x ^^^ y) = sqn n x ^^^ sqn n y := by
  induction n generalizing x y with
  | zero => rfl
  | succ n ih => rw [sqn, sq_xor, ih]; rfl
theorem sqn_gm (n : Nat) (x y : Q) : sqn n (gm x y) = gm (sqn n x) (sqn n y) := by
  induction n generalizing x y with
  | zero => rfl
  | succ n ih => rw [sqn, sq_gm, ih]; rfl
def sqGo : Nat → Q → Q
  | 0, x => x
  | n + 1, x => sqGo n (gGo 128 x x 0#128)
theorem sqn_go (n : Nat) (x : Q) : sqn n x = sqGo n x := by
  induction n generalizing x with
  | zero => rfl
  | succ n ih => rw [sqn, sqGo, ih, sq, gm_go]
theorem sqGo_add (m n : Nat) (x : Q) : sqGo n (sqGo m x) = sqGo (m + n) x := by
  induction m generalizing x with
  | zero => rw [sqGo, Nat.zero_add]
  | succ m ih => rw [sqGo, ih, Nat.succ_add, sqGo]
set_option maxRecDepth 1000000 in
theorem sqn_t : sqn 128 (eT oneQ) = eT oneQ := by
  refine (sqn_go 128 _).trans ?_
  have h : (sqGo 64 (sqGo 64 (eT oneQ)) == eT oneQ) = true := by decide +kernel
  exact (sqGo_add 64 64 _).symm.trans (eq_of_beq h)
theorem sq_e1 : sq oneQ = oneQ := gm_e1_left oneQ
theorem sqn_e1 (n : Nat) : sqn n oneQ = oneQ := by
  induction n with
  | zero => rfl
  | succ n ih => rw [sqn, sq_e1, ih]
theorem eT_gm (x : Q) : eT x = gm (eT oneQ) x := by rw [gm_eT, gm_e1_left]
/-- Each element is its own power of 2^128. -/
theorem sqn_all (x : Q) : sqn 128 x = x :=
  same_lin (sqn 128) (fun x => x) (sqn_xor 128) (fun _ _ => rfl) (fun a => by rw [eT_gm a, sqn_gm, sqn_t, ← eT_gm]) (fun _ => rfl) (sqn_e1 128) x

/-- What brings back an element, but for its first coefficient, from the sum of it and its square. -/
def unT : List Q := [0x10d04d25f93556e69f58ce2f8d035a94#128, 0x202f566ef59a994991d0e977a9aa5ba7#128, 0x602f566ef59a994991d0e977a9aa5ba7#128, 0x3045202cccefc1ee67fd0ac2e3641972#128, 0x402f566ef59a994991d0e977a9aa5ba7#128, 0x5672e0c1d328e3be0d2c5beb59e57554#128, 0x2045202cccefc1ee67fd0ac2e3641972#128, 0x187f9b4b8cafcfaf8e88275824a90133#128, 0x482f566ef59a994991d0e977a9aa5ba7#128, 0x22da13517461d3ee69739a8be16c1972#128, 0x5272e0c1d328e3be0d2c5beb59e57554#128, 0x6aff55603cd3fceff55228f556d54755#128, 0x2245202cccefc1ee67fd0ac2e3641972#128, 0x46fc06025397fc91bb49eab33e4cf467#128, 0x197f9b4b8cafcfaf8e88275824a90133#128, 0x646dca2be3d6cc87d093e2fc4c0f4ad5#128, 0x48af566ef59a994991d0e977a9aa5ba7#128, 0x5cea2fd59105659e2d1ccaeb5d2c7d54#128, 0x229a13517461d3ee69739a8be16c1972#128, 0x3f46a4c41f7d395874f4e33b9d331780#128, 0x5252e0c1d328e3be0d2c5beb59e57554#128, 0x312701524d961730583bcf844c342240#128, 0x6aef55603cd3fceff55228f556d54755#128, 0x144559bb6c9ffcd7bc4c239cf48626f3#128, 0x224d202cccefc1ee67fd0ac2e3641972#128, 0x1a24eaea541cab0f9092b01169688933#128, 0x46f806025397fc91bb49eab33e4cf467#128, 0x2c14dba71e26fe964f314b9433eb3eb2#128, 0x197d9b4b8cafcfaf8e88275824a90133#128, 0x2561da58536a903fe562896ae4899333#128, 0x646cca2be3d6cc87d093e2fc4c0f4ad5#128, 0x41d77800d619af2838dab35b297373a6#128, 0x48afd66ef59a994991d0e977a9aa5ba7#128, 0x5ce7c3e3968e47f62e5390ab45fe70d4#128, 0x5cea6fd59105659e2d1ccaeb5d2c7d54#128, 0x428019a11caacb8824c8241264b2fba6#128, 0x229a33517461d3ee69739a8be16c1972#128, 0x258e6f54b84bf6f7ef54f70e70ef2ef3#128, 0x3f46b4c41f7d395874f4e33b9d331780#128, 0x1af0929921b9589f9fb368dce89d2373#128, 0x5252e8c1d328e3be0d2c5beb59e57554#128, 0x3bdc8ad604f36599e246fae899f68fc1#128, 0x312705524d961730583bcf844c342240#128, 0x38e6217d7e479d8109554569546afc0#128, 0x6aef57603cd3fceff55228f556d54755#128, 0x2bd77bb364ab6b3fc733d8875e039333#128, 0x144558bb6c9ffcd7bc4c239cf48626f3#128, 0x698e6217d7fb8627ef6aa903c013fa95#128, 0x224d20acccefc1ee67fd0ac2e3641972#128, 0x21ce3a83c07704de74dad50f0d583b32#128, 0x1a24eaaa541cab0f9092b01169688933#128, 0x56f3167fe31312df9eb885b869165d55#128, 0x46f806225397fc91bb49eab33e4cf467#128, 0x77dcb1c60e3ad1c9e2190477682adba7#128, 0x2c14dbb71e26fe964f314b9433eb3eb2#128, 0x7348a7e5645f92d076e747a9d181ec26#128, 0x197d9b438cafcfaf8e88275824a90133#128, 0x2cfbb4409945161e45d21862e0409b32#128, 0x2561da5c536a903fe562896ae4899333#128, 0x36e717e02724b8f1d1527df73b8e8241#128, 0x646cca29e3d6cc87d093e2fc4c0f4ad5#128, 0x7adc3b3404788e11d4cfd6f8f5447467#128, 0x41d77801d619af2838dab35b297373a6#128, 0x4a2ade42a1db559927495c4d4e62fc1#128, 0x48afd66e759a994991d0e977a9aa5ba7#128, 0x329f337db88e12004e8e904902080000#128, 0x5ce7c3e3d68e47f62e5390ab45fe70d4#128, 0x36e9eb0be64d6b99d3ec2e5e502bb781#128, 0x5cea6fd5b105659e2d1ccaeb5d2c7d54#128, 0x4622ba58b211bb21b69fb337b1785627#128, 0x428019a10caacb8824c8241264b2fba6#128, 0x49a065cd7758d5196f0e3578d383201#128, 0x229a33517c61d3ee69739a8be16c1972#128, 0x55aabdbeec28a2078079924a4cd2f295#128, 0x258e6f54bc4bf6f7ef54f70e70ef2ef3#128, 0x7986f6afcfc951e9cb9188c1a5beebe7#128, 0x3f46b4c41d7d395874f4e33b9d331780#128, 0x2f76850d57908a5e54a716d46cf0bb32#128, 0x1af0929920b9589f9fb368dce89d2373#128, 0x489a0b11781e0c1196cc4fdebc394c27#128, 0x5252e8c1d3a8e3be0d2c5beb59e57554#128, 0x72ccff3fd3d186182e1ce9a41041041#128, 0x3bdc8ad604b36599e246fae899f68fc1#128, 0x5c33b52f8947e9462158188b7248d294#128, 0x312705524db61730583bcf844c342240#128, 0x79880aa666d696d9c926622882fff1e7#128, 0x38e6217d7f479d8109554569546afc0#128, 0x285aabc679b16ad7d6c2852abfdb1eb3#128, 0x6aef57603cdbfceff55228f556d54755#128, 0x26d44eb77ddd535ff0b1c738de72bb33#128, 0x2bd77bb364af6b3fc733d8875e039333#128, 0x3cfddc25f2ae2df86391fd8d3387a7c0#128, 0x144558bb6c9dfcd7bc4c239cf48626f3#128, 0x457534e82f16f649aa2d862c91005ba7#128, 0x698e6217d7fa8627ef6aa903c013fa95#128, 0x4bf8b9d33b8f38198de17cdee54751e7#128, 0x224d20acccef41ee67fd0ac2e3641972#128, 0x634efa836deeebf650dae654442b4894#128, 0x21ce3a83c07744de74dad50f0d583b32#128, 0x4bf6a9a1f02e1f698fec4b1a74166be7#128, 0x1a24eaaa541c8b0f9092b01169688933#128, 0x6462e2cc93c28627d2d0526e0d66c2d5#128, 0x56f3167fe31302df9eb885b869165d55#128, 0x79b07befedd921e9cd751ec18ebeebe7#128, 0x46f806225397f491bb49eab33e4cf467#128, 0x701c741cbd9fc8b06b94eadf79b8c426#128, 0x77dcb1c60e3ad5c9e2190477682adba7#128, 0x44eaa59bd8819a999287fa5ed58ad81#128, 0x2c14dbb71e26fc964f314b9433eb3eb2#128, 0x602105ae977251e64834e0c2dd2d5a94#128, 0x7348a7e5645f93d076e747a9d181ec26#128, 0x645919a4b35879f7d7a68d71cb5770d5#128, 0x197d9b438cafcf2f8e88275824a90133#128, 0xd94d9da18080030c4db699e5dc0#128, 0x2cfbb4409945165e45d21862e0409b32#128, 0x99a6e1cca2f8641a0b0910804c90841#128, 0x2561da5c536a901fe562896ae4899333#128, 0x5f86cdbc744e28fe3430f49ddf071154#128, 0x36e717e02724b8e1d1527df73b8e8241#128, 0x51eae8be2fe60df61bf9191de1788d94#128, 0x646cca29e3d6cc8fd093e2fc4c0f4ad5#128, 0x5f67891c31b7edb03c86875f90384d1c#128, 0x7adc3b3404788e15d4cfd6f8f5447467#128, 0x36dc3b3404788e15d4cfd6f8f5447461#128, 0x41d77801d619af2a38dab35b297373a6#128, 0x35bd0e43ef6cf78dcef750ee63bd3171#128, 0x4a2ade42a1db558927495c4d4e62fc1#128, 0x0#128]
def unGo : List Q → Nat → Q → Q → Q
  | [], _, _, z => z
  | a :: l, i, y, z => unGo l (i + 1) y (if co y i then z ^^^ a else z)
theorem unGo_acc (l : List Q) : ∀ (i : Nat) (y z : Q), unGo l i y z = z ^^^ unGo l i y 0#128 := by
  induction l with
  | nil => intro i y z; simp [unGo]
  | cons a l ih =>
    intro i y z
    rw [unGo, unGo, ih, ih _ _ (if co y i then 0#128 ^^^ a else 0#128)]
    cases co y i <;> simp [BitVec.xor_assoc]
theorem unGo_xor (l : List Q) : ∀ (i : Nat) (x y : Q), unGo l i (x ^^^ y) 0#128 = unGo l i x 0#128 ^^^ unGo l i y 0#128 := by
  induction l with
  | nil => intro i x y; simp [unGo]
  | cons a l ih =>
    intro i x y
    rw [unGo, unGo, unGo, unGo_acc, unGo_acc l _ x, unGo_acc l _ y, ih, co_xor]
    cases co x i <;> cases co y i <;> simp
    · ac_rfl
    · ac_rfl
    · have : a ^^^ unGo l (i + 1) x 0#128 ^^^ (a ^^^ unGo l (i + 1) y 0#128) = (unGo l (i + 1) x 0#128 ^^^ unGo l (i + 1) y 0#128) ^^^ (a ^^^ a) := by ac_rfl
      rw [this, BitVec.xor_self, BitVec.xor_zero]
def unQ (y : Q) : Q := unGo unT 0 y 0#128
theorem un_xor (x y : Q) : unQ (x ^^^ y) = unQ x ^^^ unQ y := unGo_xor unT 0 x y
/-- The first coefficient alone. -/
def c0Q (x : Q) : Q := if co x 0 then oneQ else 0#128
theorem c0_xor (x y : Q) : c0Q (x ^^^ y) = c0Q x ^^^ c0Q y := by
  unfold c0Q
  rw [co_xor]
  cases co x 0 <;> cases co y 0 <;> simp
set_option maxRecDepth 100000 in
theorem un_basis : ∀ i, i < 128 → unGo unT 0 (gGo 128 (1#128 <<< (127 - i)) (1#128 <<< (127 - i)) 0#128 ^^^ 1#128 <<< (127 - i)) 0#128 = 1#128 <<< (127 - i) ^^^ c0Q (1#128 <<< (127 - i)) := by decide +kernel
theorem un_all (x : Q) : unQ (sq x ^^^ x) = x ^^^ c0Q x :=
  same_map (fun x => unQ (sq x ^^^ x)) (fun x => x ^^^ c0Q x)
    (fun a b => by
      show unQ (sq (a ^^^ b) ^^^ (a ^^^ b)) = _
      rw [sq_xor, ← un_xor]
      congr 1
      ac_rfl)
    (fun a b => by
      show (a ^^^ b) ^^^ c0Q (a ^^^ b) = _
      rw [c0_xor]
      ac_rfl)
    (fun i hi => by
      show unQ (sq (eTn i oneQ) ^^^ eTn i oneQ) = eTn i oneQ ^^^ c0Q (eTn i oneQ)
      rw [eTn_e1 i hi, sq, gm_go]
      exact un_basis i hi) x
theorem un_zero : unQ 0#128 = 0#128 := by
  have h := un_xor 0#128 0#128
  rw [BitVec.xor_self, BitVec.xor_self] at h
  exact h
/-- What is its own square is 0 or 1. -/
theorem fixed (x : Q) (h : sq x = x) : x = 0#128 ∨ x = oneQ := by
  have k := un_all x
  rw [h, BitVec.xor_self, un_zero] at k
  unfold c0Q at k
  cases hc : co x 0
  · rw [hc] at k
    simp at k
    exact Or.inl k.symm
  · rw [hc] at k
    simp only [if_true] at k
    right
    have : x ^^^ oneQ ^^^ oneQ = 0#128 ^^^ oneQ := by rw [← k]
    rwa [BitVec.xor_assoc, BitVec.xor_self, BitVec.xor_zero, BitVec.zero_xor] at this
/-- The product of the first n squares of squares. -/
def nrm : Nat → Q → Q
  | 0, _ => oneQ
  | n + 1, x => gm (nrm n x) (sqn n x)
theorem nrm_x (n : Nat) (x : Q) : gm x (nrm n x) = sqn n x := by
  induction n with
  | zero => rw [nrm, gm_e1_right]; rfl
  | succ n ih => rw [nrm, ← gm_assoc, ih, sqn_succ]; rfl
theorem nrm_sq (n : Nat) (x : Q) : sq (nrm n x) = nrm n (sq x) := by
  induction n with
  | zero => rw [nrm, nrm, sq_e1]
  | succ n ih => rw [nrm, nrm, sq_gm, ih, ← sqn_succ]; rfl
theorem nrm_front (n : Nat) (x : Q) : nrm (n + 1) x = gm x (nrm n (sq x)) := by
  induction n with
  | zero => rw [nrm, nrm, nrm, gm_e1_left, gm_e1_right]; rfl
  | succ n ih => rw [nrm, ih, nrm, gm_assoc]; rfl
theorem nrm_fixed (x : Q) : sq (nrm 128 x) = nrm 128 x := by
  rw [nrm_sq, show (128 : Nat) = 127 + 1 from rfl, nrm_front 127 x, nrm]
  have : sqn 127 (sq x) = x := sqn_all x
  rw [this, gm_comm]
/-- The inverse. -/
def ginv (x : Q) : Q := nrm 127 (sq x)
theorem gm_ginv (x : Q) (h : x ≠ 0#128) : gm x (ginv x) = oneQ := by
  have e : nrm 128 x = gm x (ginv x) := nrm_front 127 x
  rw [← e]
  rcases fixed _ (nrm_fixed x) with h0 | h1
  · have k := nrm_x 128 x
    rw [h0, gm_zero_right, sqn_all] at k
    exact absurd k.symm h
  · exact h1
/-- To multiply by what is not 0 loses nothing. -/
theorem gm_inj {x y h : Q} (hh : h ≠ 0#128) (e : gm x h = gm y h) : x = y := by
  have k : gm (gm x h) (ginv h) = gm (gm y h) (ginv h) := by rw [e]
  rwa [gm_assoc, gm_assoc, gm_ginv h hh, gm_e1_right, gm_e1_right] at k
end Go.Proofs.Ytjhkicfndbceoaa
