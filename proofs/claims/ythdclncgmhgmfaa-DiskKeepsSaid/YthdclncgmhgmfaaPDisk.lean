/- The program's disk by contract, whole (PD1 to PD14). -/
import Derived.Test.YthdclncgmhgmfaaPD14
